/- Merged: ValsS ToStr ToNeed SortNM. -/
import Derived.Test.YtcfbkfmkjggcdaaGreatDoorGA10
import Derived.Test.YtcfbkfmkjggcdaaGreatDoorGA1
import Derived.Test.YtcfbkfmkjggcdaaGreatDoorGA4
import Derived.Test.YtcfbkfmkjggcdaaGreatDoorGA0
import Derived.Test.YtcfbkfmkjggcdaaGreatDoorRows
import Derived.ProofKit
import Derived.OpenShut
import Derived.Deep.WholeRow
import Derived.Deep.RegionLaw
import Derived.Test.YtcfbkfmkjggcdaaGreatDoorGA2
import Derived.Test.YtcfbkfmkjggcdaaGreatDoorGA9
import Derived.Test.YtcfbkfmkjggcdaaGreatDoorGA8
set_option linter.unusedVariables false
namespace Go.Proofs.YtcfbkfmkjggcdaaGreatDoor
namespace need
open Go.ChangeShapes Go.WideShapes Go.ChangeAt Go.RowKit ty lab dedup
theorem TryzinfoStrV : (Tryz.prog.info? 9).map (fun i=>(i.zero,i.size,i.bytes)) = some (some (.string ⟨#[]⟩),1,16):=by kernel_rfl
theorem nW (l : List ByteArray) : ∀ u ∈ aT l,u.oneCell' = true:=by
  intro u hu;simp [aT] at hu;obtain ⟨x,_,rfl⟩:=hu;rfl
theorem vK (l : List ByteArray) (k : Nat) : (aT l).take (k * 1) = aT (l.take k):=by simp [aT,List.map_take]
theorem vL (l : List ByteArray) (k : Nat) : (aT l).drop (k * 1) = aT (l.drop k):=by simp [aT,List.map_drop]
theorem KD {w : World} {A : Option Addr} {n : Nat} {xs : List Value} (h : Rd w A n xs) : jI w A n 1 xs:=by
  refine ⟨by rw [h.1,Nat.mul_one],fun hm=>?_⟩;obtain ⟨g,o,hA,hg,hc⟩:=h.2 hm;exact ⟨g,o,hA,hg,fun j u hu=>hc j (by have:=(List.getElem?_eq_some_iff.1 hu).1; rw [h.1] at this; exact this) u hu⟩
theorem xU {ops : Array Oper} {o : Oper} {a : Act} {X wd : World} {K : Act → World → Prop} {Q : Exit → Act → World → Prop} {E : Prop}
    (hg : o.guard = none) (hop : o.op = Op.call { callee:=Callee.builtin Builtin.append,args:=#[.tmp 46,.tmp 49],argTypes:=#[67,67] })
    (b : Nat) (hs : a.eval (.tmp 46) = .slice (some ⟨b,0,none⟩) 0 0) (hX : Below wd.heap.size wd X) (hown : X.ownsRow wd.heap.size 9 1 (.slice (some ⟨b,0,none⟩) 0 0) 0 [])
    (A : Option Addr) (k c : Nat) (news : List ByteArray) (hx : a.eval (.tmp 49) = .slice A k c) (hr : jI wd A k 1 (aT news)) (hk : k ≤ 64)
    (hK : ∀ v' w',w'.ownsRow wd.heap.size 9 1 v' k (aT news) → Below wd.heap.size wd w' → X.heap.size ≤ w'.heap.size → (∀ q,q < X.heap.size → q ≠ b → w'.heap[q]? = X.heap[q]?) → K (a.put o.dst v') w') :
    if Region.wanted o (yielded ops a.tmps) = true then Oper.wp Tryz.prog o a X K Q else E:=by
  obtain ⟨i0,hi,hz0,hz1,hz2⟩:=info_parts TryzinfoStrV;refine dV hg (.tmp 46) (.tmp 49) 67 hop wd.heap.size 9 i0 _ 1 16 Tryz.underlying67 hi hz0 hz1 hz2 rfl (by decide) _ 0 [] hs hown A k c (aT news) hx (hr.below hX) (nW _) (by unfold maxLen; omega) (by omega) hX.size ?_;intro v' w' h1 h2 h3;rw [Nat.zero_add,List.nil_append] at h1;refine hK v' w' h1 (hX.grown h2 hX.size (fun q hq=>(hown.lt q hq).1)) h2.size (fun q hq hb=>h2.block q hq (fun e=>hb (by simp [Value.ownBlock] at e; omega)))
theorem vM {ops : Array Oper} {o : Oper} {a : Act} {Y wd : World} {K : Act → World → Prop} {Q : Exit → Act → World → Prop} {E : Prop}
    (hg : o.guard = none) (hop : o.op = Op.call { callee:=Callee.builtin Builtin.append,args:=#[.tmp 50,.tmp 55],argTypes:=#[67,67] })
    (v : Value) (k : Nat) (news : List ByteArray) (x : ByteArray) (hs : a.eval (.tmp 50) = v) (hY : Below wd.heap.size wd Y) (hown : Y.ownsRow wd.heap.size 9 1 v k (aT news))
    (A : Option Addr) (hx : a.eval (.tmp 55) = .slice A 1 1) (hr : jI Y A 1 1 [.string x]) (hk : k ≤ 64)
    (hK : ∀ v' w',w'.ownsRow wd.heap.size 9 1 v' (k + 1) (aT (news ++ [x])) → Below wd.heap.size wd w' → K (a.put o.dst v') w') :
    if Region.wanted o (yielded ops a.tmps) = true then Oper.wp Tryz.prog o a Y K Q else E:=by
  obtain ⟨i0,hi,hz0,hz1,hz2⟩:=info_parts TryzinfoStrV;refine dV hg (.tmp 50) (.tmp 55) 67 hop wd.heap.size 9 i0 _ 1 16 Tryz.underlying67 hi hz0 hz1 hz2 rfl (by decide) v k _ hs hown A 1 1 [.string x] hx hr (by intro u hu; simp at hu; rw [hu]; rfl) (by unfold maxLen; omega) (by omega) hY.size ?_;intro v' w' h1 h2 h3;rw [show [Value.string x] = aT [x] from rfl,← tL] at h1;exact hK v' w' h1 (hY.grown h2 hY.size (fun q hq=>(hown.lt q hq).1))
theorem lV {w : World} {B : Nat} {e : TypeId} {size n : Nat} {v : Value} {xs : List Value} (h : w.ownsRow B e size v n xs) (hn : 0 < n) : ∃ g c,v = .slice (some ⟨g,0,none⟩) n c:=by
  rcases h.2 with ⟨_,h⟩ | ⟨g,cap,cur,rfl,_⟩
  · omega
  · exact ⟨g,cap,rfl⟩
theorem Jw (w : World) (o : Obj) : Below w.heap.size w ((w.alloc o).drew):=((Below.refl _ _).alloc (Nat.le_refl _) _).drew
theorem Jy (w : World) (o p : Obj) : Below w.heap.size w (((w.alloc o).alloc p).drew):=(((Below.refl _ _).alloc (Nat.le_refl _) _).alloc (by simp) _).drew
theorem Tz (w : World) : ((w.alloc (.cells #[] 9)).drew).ownsRow w.heap.size 9 1 (.slice (some ⟨w.heap.size,0,none⟩) 0 0) 0 []:=
  World.ownsRow_lit w #[] 0 (Nat.le_refl _) (by simp [maxLen]) rfl
theorem TA (w : World) (p : Obj) : (((w.alloc (.cells #[] 9)).alloc p).drew).ownsRow w.heap.size 9 1 (.slice (some ⟨w.heap.size,0,none⟩) 0 0) 0 []:=
  own_below' (World.ownsRow_lit w #[] 0 (Nat.le_refl _) (by simp [maxLen]) rfl) ((Below.refl _ _).alloc (Nat.le_refl _) p).drew
theorem TB (w : World) (p : Obj) : (((w.alloc p).alloc (.cells #[] 9)).drew).ownsRow w.heap.size 9 1 (.slice (some ⟨w.heap.size + 1,0,none⟩) 0 0) 0 []:=by
  have e : w.heap.size + 1 = (w.alloc p).heap.size:=(by simp);rw [e];exact bR (World.ownsRow_lit (w.alloc p) #[] 0 (Nat.le_refl _) (by simp [maxLen]) rfl) (by simp)
theorem zI {w : World} {b : Nat} {x : ByteArray} (h : w.heap[b]? = some (.cells #[.string x] 9 (0,0))) : jI w (some ⟨b,0,none⟩) 1 1 [.string x]:=by
  refine ⟨rfl,fun _=>⟨b,0,rfl,aX h,fun j u hu=>?_⟩⟩;rw [Nat.zero_add,cell_of_row _ _ _ _ _ _ h];simpa using hu
theorem TD {w w' : World} {o : Obj} {x : ByteArray} (h : ∀ q,q < (((w.alloc o).alloc (.cells #[.string x] 9)).drew).heap.size → q ≠ w.heap.size → w'.heap[q]? = (((w.alloc o).alloc (.cells #[.string x] 9)).drew).heap[q]?) : jI w' (some ⟨w.heap.size + 1,0,none⟩) 1 1 [.string x]:=by
  refine zI ((h _ (by show _ < ((w.alloc o).alloc _).heap.size; simp) (by omega)).trans ?_);have:=heap_alloc_new (w.alloc o) (.cells #[.string x] 9);have e : (w.alloc o).heap.size = w.heap.size + 1:=(by simp);rw [e] at this;exact this
theorem TF {w w' : World} {o : Obj} {x : ByteArray} (h : ∀ q,q < (((w.alloc (.cells #[.string x] 9)).alloc o).drew).heap.size → q ≠ w.heap.size + 1 → w'.heap[q]? = (((w.alloc (.cells #[.string x] 9)).alloc o).drew).heap[q]?) : jI w' (some ⟨w.heap.size,0,none⟩) 1 1 [.string x]:=by
  refine zI ((h _ (by show _ < ((w.alloc _).alloc o).heap.size; simp <;> omega) (by omega)).trans ?_);have e : w.heap.size < (w.alloc (.cells #[.string x] 9)).heap.size:=(by simp);exact (Below.heap_alloc (w.alloc (.cells #[.string x] 9)) o w.heap.size e).trans (heap_alloc_new w _)
theorem Fh (w : World) (x : ByteArray) : jI (w.alloc (.cells #[.string x] 9)) (some ⟨w.heap.size,0,none⟩) 1 1 [.string x]:=zI (heap_alloc_new w _)
set_option maxRecDepth 1000000 in
set_option maxHeartbeats 8000000 in
theorem Cj (l : List ByteArray) (f : Nat) (v : Value) (w : World) (h : bf w f v (.sl 1 l.length (l.flatMap Str.row))) (aeo : l.length ≤ 40) :
    Calls Tryz.prog 111 #[v] w fun e w'=>∃ v',e = .returned v' ∧ dx w' w.heap.size 1 9 1 v' (aU aJ l).length ((aU aJ l).flatMap Str.row) ∧ Below w.heap.size w w':=by
  obtain ⟨A,c,rfl,hc1,hc2,hr,hks⟩:=Str.opened h;unfold maxLen at hc2;obtain ⟨i0,hi,hz0,hz1,hz2⟩:=info_parts TryzinfoStrV;obtain ⟨w1,hw1⟩ : ∃ w1,w1 = w.alloc (.cells #[] 9):=⟨_,rfl⟩;have hb1 : Below w.heap.size w w1:=(by rw [hw1]; exact (Below.refl _ _).alloc (Nat.le_refl _) _);have hown1 : w1.ownsRow w.heap.size 9 1 (.slice (some ⟨w.heap.size,0,none⟩) 0 0) 0 []:=(by rw [hw1]; exact World.ownsRow_lit w #[] 0 (Nat.le_refl _) (by simp [maxLen]) rfl);have eT:=Lib.hid hw1;have jV:=Lib.hid hown1;have Hb1:=Lib.hid hb1;have Hr:=Lib.hid hr;have Yl:=Lib.hid hks;clear h hr hks hw1 hown1 hb1;go_enter Tryz.func111,Tryz.ntmps111;go_wp2_with fail;rw [← eT.out]
  go_loopw [3,4] (fun vo i wr=>∃ (j m g cg : Nat),j ≤ l.length ∧ i = .int .i64 j ∧ vo = .slice (some ⟨g,0,none⟩) m cg ∧ wr.ownsRow w.heap.size 9 1 (.slice (some ⟨g,0,none⟩) m cg) m (aT (aU aJ (l.take j))) ∧ Below w.heap.size w wr) (fun _ i _=>l.length - (intOf i).toNat)
  case atStart=>exact ⟨0,0,w.heap.size,0,Nat.zero_le _,rfl,rfl,by simpa [aU,aT] using jV.out,Hb1.out⟩
  case round=>
    clear jV eT Hb1;obtain ⟨wo,rfl⟩ : ∃ wo,wo = wr:=⟨_,rfl⟩;obtain ⟨j,m,g,cg,hj,rfl,rfl,hown,hbel⟩:=hrel;obtain ⟨S,hS⟩ : ∃ S,S = aU aJ (l.take j):=⟨_,rfl⟩;have hSS:=hS;rw [← hS] at hown;have PI : S.length = m:=(by have:=hown.1; rw [bG] at this; omega);have hmj : m ≤ j:=(by have:=fI aJ (l.take j); rw [← hS,List.length_take] at this; omega);by_cases hlt : j < l.length
    · obtain ⟨g1,o1,rfl,hg1,hc0⟩:=(Hr.out.below hbel).2 (by omega);have q0 : wo.cell? ⟨g1,o1 + j,none⟩ = some (.string l[j]):=hc0 j hlt _ (bV l j hlt);have XZ : aU aJ (l.take (j + 1)) = iJ aJ l[j] S:=(by rw [List.take_succ_eq_append_getElem hlt,pQ,hS]);have AX:=Lib.hid XZ;have yA:=Lib.hid PI
      obtain ⟨Qf,Qg⟩ : m ≤ cg ∧ cg ≤ 9223372036854775807:=by
        obtain ⟨c',e,h1,h2,_⟩:=iB hown rfl;injection e with _ _ e;subst e;exact ⟨h1,h2⟩
      have dY:=Lib.hid hown;have bg:=Lib.hid hbel
      have hrows : ∀ q (h : q < S.length),wo.cell? ⟨g,q,none⟩ = some (.string S[q]):=fun q h=>by
        have:=hown.cells (g:=g) rfl q (.string S[q]) (bV S q h)
        rwa [Addr.add_lit,Nat.zero_add] at this
      have MJ:=Lib.hid hrows;clear hrows hown hbel hc0 hS XZ PI hSS;obtain ⟨x,hx⟩ : ∃ x,x = l[j]:=⟨_,rfl⟩;rw [← hx] at q0 AX;clear hx;go_wp2_with fail
      go_loopw [5] (fun kv wi=>∃ k : Nat,k ≤ m ∧ kv = .int .i64 k ∧ Hid (∀ q (h : q < k) (h2 : q < S.length),aJ S[q] x = true) ∧ ∃ n,wi = wo.drewN n) (fun kv _=>m - (intOf kv).toNat)
      case atStart=>exact ⟨0,Nat.zero_le _,rfl,fun q h=>by omega,0,rfl⟩
      case round=>
        obtain ⟨wi,rfl⟩ : ∃ wi,wi = wr:=⟨_,rfl⟩;obtain ⟨k,hkj,rfl,hall,n0,hwi⟩:=hrel;have yB : Hid (∃ n,wi = wo.drewN n):=⟨n0,hwi⟩;have p0 : wi.cell? ⟨g1,o1 + j,none⟩ = some (.string x):=(by rw [hwi]; exact q0);by_cases hkl : k < m
        · have VQ : k < S.length:=(by rw [yA.out]; exact hkl);have r0 : wi.cell? ⟨g,k,none⟩ = some (.string S[k]):=(by rw [hwi]; exact MJ.out k VQ);clear hwi;cases hb : aJ S[k] x with
          | true=>
            have jK : Hid (∀ q (h : q < k + 1) (h2 : q < S.length),aJ S[q] x = true):=fun q h h2=>by
              by_cases e : q = k
              · subst e; exact hb
              · exact hall.out q (by omega) h2
            unfold aJ at hb;clear hall;generalize S[k] = z at r0 hb;go_wp2_with fail
            go_quiet (fail)
            go_wp2_with fail
            go_roundw
            case rel=>exact ⟨k + 1,by omega,by go_num,jK.out,dU yB.out _⟩
            case measure=>simp [intOf]; omega
          | false=>
            cases hb2 : aJ x S[k] with
            | false=>
              have kC:=Lib.hid (oN VQ (fun q h=>hall.out q h (by omega)) hb hb2);have hs:=cu (mV hb hb2);clear hall hb2;unfold aJ at hb;generalize S[k] = z at r0 hb hs;go_wp2_with fail
              go_quiet (fail)
              obtain ⟨sK,kQ⟩ : ∃ sK,sK = wi.drewN nq:=⟨_,rfl⟩;have vH : Hid (∃ n,sK = wo.drewN n):=(by rw [kQ]; exact dU yB.out nq);have p1 : sK.cell? ⟨g1,o1 + j,none⟩ = some (.string x):=(by rw [kQ]; exact p0);have r1 : sK.cell? ⟨g,k,none⟩ = some (.string z):=(by rw [kQ]; exact r0);rw [← kQ];clear kQ p0 yB r0;go_wp2_with fail
              go_quiet (fail)
              have hbd : Below wo.heap.size wo (sK.drewN nq):=by
                obtain ⟨n,hn⟩:=dU vH.out nq;rw [hn];exact below_drewN (Below.refl _ _) n
              have jW:=Lib.hid (own_below' dY.out hbd);have yC:=Lib.hid (ah bg.out hbd bg.out.size);clear hbd;have e7 : aT S = aT (aU aJ (l.take (j + 1))):=(by rw [AX.out,kC.out]);rw [e7] at jW;clear e7 p1 r1 hb hs;go_wp2_with fail
              go_roundw
              case rel=>exact ⟨j + 1,m,g,cg,by omega,by go_num,rfl,jW.out,yC.out⟩
              case measure=>simp [intOf]; omega
            | true=>
              have kC:=Lib.hid (kr (Nat.le_of_lt VQ) (fun q h=>hall.out q h (by omega)) (fun h=>⟨hb,hb2⟩));have hs:=dH (show ¬ S[k] = x from fun e=>by rw [e,sQ] at hb2; cases hb2);clear hall hb2;unfold aJ at hb;generalize S[k] = z at r0 hb hs;go_wp2_with fail
              go_quiet (fail)
              obtain ⟨sK,kQ⟩ : ∃ sK,sK = wi.drewN nq:=⟨_,rfl⟩;have vH : Hid (∃ n,sK = wo.drewN n):=(by rw [kQ]; exact dU yB.out nq);have p1 : sK.cell? ⟨g1,o1 + j,none⟩ = some (.string x):=(by rw [kQ]; exact p0);have r1 : sK.cell? ⟨g,k,none⟩ = some (.string z):=(by rw [kQ]; exact r0);rw [← kQ];clear kQ p0 yB r0;go_wp2_with fail
              go_quiet (fail)
              clear hb hs r1;obtain ⟨wd,hwd⟩ : ∃ wd,wd = sK.drewN nq:=⟨_,rfl⟩
              have hbd : Below wo.heap.size wo wd:=by
                obtain ⟨n,hn⟩:=dU vH.out nq;rw [hwd,hn];exact below_drewN (Below.refl _ _) n
              have eu:=own_below' dY.out hbd;have iw:=fT eu 0 0 k (by omega) (by omega);rw [Nat.zero_mul,List.drop_zero,vK] at iw;have e0 : wd.cell? ⟨g1,o1 + j,none⟩ = some (.string x):=(by rw [hwd]; exact p1);have iV:=Lib.hid iw;have oP:=Lib.hid eu;have kP:=Lib.hid hbd;rw [← hwd];clear hwd hbd eu iw p1;go_wp2_with fail;have fJ : k ≤ 64:=(by omega);have hkc : k ≤ cg:=(by omega);have VR : k ≤ m:=(by omega)
              have kW : g1 < wd.heap.size:=by
                have h1:=World.block_lt_of_cell? _ _ e0;exact h1
              go_region_law (first
                | (refine xU (wd:=wd) rfl rfl _ rfl ?_ ?_ (some ⟨g,0,none⟩) k cg (S.take k) rfl iV.out fJ ?_
                   · first | exact Jw _ _ | exact Jy _ _ _
                   · first | exact Tz _ | exact TA _ _ | exact TB _ _
                   intro v5 w5 hown5 hb5 hs5 bN;have MK:=(World.cell?_of_block (hb5.block g1 kW)).trans e0
                   first | have jy:=TD bN | have jy:=TF bN | skip)
                | (refine vM (wd:=wd) rfl rfl _ k (S.take k) x rfl ?_ ?_ (some ⟨_,0,none⟩) rfl ?_ fJ ?_
                   · first | exact hb5 | exact hb5.alloc hb5.size _
                   · first | exact hown5 | exact own_below' hown5 ((Below.refl _ _).alloc (Nat.le_refl _) _)
                   · first | exact jy | exact Fh w5 _
                   intro v6 w6 hown6 hb6))
              all_goals
                obtain ⟨g6,c6,rfl⟩:=lV hown6 (by omega);have gZ:=(fT oP.out k k (m - k) (by omega) (by omega)).below hb6;rw [vL,List.take_of_length_le (by rw [bG,List.length_drop,yA.out,Nat.mul_one]; exact Nat.le_refl _)] at gZ;have nK:=Lib.hid gZ;have gD:=Lib.hid hown6;have zl:=Lib.hid hb6;have l7:=Lib.hid (ah bg.out (ah kP.out hb6 kP.out.size) bg.out.size);have hwd2 : w.heap.size ≤ wd.heap.size:=Nat.le_trans bg.out.size kP.out.size;have uL : w.heap.size ≤ w6.heap.size:=l7.out.size;have hdr : S.length = m:=yA.out;clear gZ hown6 hb6 hown5 hb5 hs5 bN MK e0;go_wp2_with (first | (refine aB rfl (.tmp 57) (.tmp 60) 67 rfl wd.heap.size 9 i0 _ 1 16 Tryz.underlying67 hi hz0 hz1 hz2 rfl (by decide) _ (k + 1) _ rfl gD.out _ (m - k) _ (aT (S.drop k)) rfl (nK.out) (nW _) (by unfold maxLen; omega) (by omega) zl.out.size ?_) | fail)
                all_goals
                  intro v7 w7 h7 gM ig
                  have e7 : aT (S.take k ++ [x]) ++ aT (S.drop k) = aT (aU aJ (l.take (j + 1))):=by
                    rw [AX.out,kC.out];rw [← tL,List.append_assoc]; rfl
                  rw [e7] at h7;obtain ⟨g7,c7,rfl⟩:=lV h7 (by omega);have jW:=Lib.hid (bR h7 hwd2);have yC:=Lib.hid (l7.out.grown gM uL (fun b hb=>by have:=(gD.out.lt b hb).1; omega));clear h7 gM ig e7;go_wp2_with fail
                  go_roundw
                  case rel=>exact ⟨j + 1,_,g7,c7,by omega,by go_num,rfl,jW.out,yC.out⟩
                  case measure=>simp [intOf]; omega
        · obtain rfl : m = k:=(by omega);have kC:=Lib.hid (kr (lt:=aJ) (x:=x) (S:=S) (k:=m) (by rw [yA.out]; exact Nat.le_refl _) (fun q h=>hall.out q h (by rw [yA.out]; exact h)) (fun h=>absurd h (by rw [yA.out]; exact Nat.lt_irrefl _)));clear hall hwi;go_wp2_with fail
          go_quiet (fail)
          obtain ⟨sK,kQ⟩ : ∃ sK,sK = wi.drewN nq:=⟨_,rfl⟩;have vH : Hid (∃ n,sK = wo.drewN n):=(by rw [kQ]; exact dU yB.out nq);have p1 : sK.cell? ⟨g1,o1 + j,none⟩ = some (.string x):=(by rw [kQ]; exact p0);rw [← kQ];clear kQ p0 yB;go_wp2_with fail
          go_quiet (fail)
          obtain ⟨wd,hwd⟩ : ∃ wd,wd = sK.drewN nq:=⟨_,rfl⟩
          have hbd : Below wo.heap.size wo wd:=by
            obtain ⟨n,hn⟩:=dU vH.out nq;rw [hwd,hn];exact below_drewN (Below.refl _ _) n
          have eu:=own_below' dY.out hbd;have iw:=fT eu 0 0 m (by omega) (by omega);rw [Nat.zero_mul,List.drop_zero,vK] at iw;have e0 : wd.cell? ⟨g1,o1 + j,none⟩ = some (.string x):=(by rw [hwd]; exact p1);have iV:=Lib.hid iw;have oP:=Lib.hid eu;have kP:=Lib.hid hbd;rw [← hwd];clear hwd hbd eu iw p1;go_wp2_with fail;have fJ : m ≤ 64:=(by omega);have hkc : m ≤ cg:=(by omega);have VR : m ≤ m:=(by omega)
          have kW : g1 < wd.heap.size:=by
            have h1:=World.block_lt_of_cell? _ _ e0;exact h1
          go_region_law (first
            | (refine xU (wd:=wd) rfl rfl _ rfl ?_ ?_ (some ⟨g,0,none⟩) m cg (S.take m) rfl iV.out fJ ?_
               · first | exact Jw _ _ | exact Jy _ _ _
               · first | exact Tz _ | exact TA _ _ | exact TB _ _
               intro v5 w5 hown5 hb5 hs5 bN;have MK:=(World.cell?_of_block (hb5.block g1 kW)).trans e0
               first | have jy:=TD bN | have jy:=TF bN | skip)
            | (refine vM (wd:=wd) rfl rfl _ m (S.take m) x rfl ?_ ?_ (some ⟨_,0,none⟩) rfl ?_ fJ ?_
               · first | exact hb5 | exact hb5.alloc hb5.size _
               · first | exact hown5 | exact own_below' hown5 ((Below.refl _ _).alloc (Nat.le_refl _) _)
               · first | exact jy | exact Fh w5 _
               intro v6 w6 hown6 hb6))
          all_goals
            obtain ⟨g6,c6,rfl⟩:=lV hown6 (by omega);have gZ:=(fT oP.out m m (m - m) (by omega) (by omega)).below hb6;rw [vL,List.take_of_length_le (by rw [bG,List.length_drop,yA.out,Nat.mul_one]; exact Nat.le_refl _)] at gZ;have nK:=Lib.hid gZ;have gD:=Lib.hid hown6;have zl:=Lib.hid hb6;have l7:=Lib.hid (ah bg.out (ah kP.out hb6 kP.out.size) bg.out.size);have hwd2 : w.heap.size ≤ wd.heap.size:=Nat.le_trans bg.out.size kP.out.size;have uL : w.heap.size ≤ w6.heap.size:=l7.out.size;have hdr : S.length = m:=yA.out;clear gZ hown6 hb6 hown5 hb5 hs5 bN MK e0;go_wp2_with (first | (refine aB rfl (.tmp 57) (.tmp 60) 67 rfl wd.heap.size 9 i0 _ 1 16 Tryz.underlying67 hi hz0 hz1 hz2 rfl (by decide) _ (m + 1) _ rfl gD.out _ (0) _ (([] : List Value)) rfl (jI.nil _ _ _) (fun u hu=>by cases hu) (by unfold maxLen; omega) (by omega) zl.out.size ?_) | fail)
            all_goals
              intro v7 w7 h7 gM ig
              have e7 : aT (S.take m ++ [x]) = aT (aU aJ (l.take (j + 1))):=by
                rw [AX.out,kC.out];rw [List.take_of_length_le (by omega),List.drop_of_length_le (by omega)]
              rw [e7] at h7;obtain ⟨g7,c7,rfl⟩:=lV h7 (by omega);have jW:=Lib.hid (bR h7 hwd2);have yC:=Lib.hid (l7.out.grown gM uL (fun b hb=>by have:=(gD.out.lt b hb).1; omega));clear h7 gM ig e7;go_wp2_with fail
              go_roundw
              case rel=>exact ⟨j + 1,_,g7,c7,by omega,by go_num,rfl,jW.out,yC.out⟩
              case measure=>simp [intOf]; omega
    · obtain rfl : j = l.length:=(by omega);rw [List.take_length] at hSS;subst hSS;subst PI;have bg:=Lib.hid hbel;have HR:=Lib.hid (qU (f:=0) hown (fun y hy=>Yl.out y (gu aJ l y hy)));clear hown hbel;go_wp2_with fail;go_ret;exact ⟨_,rfl,by rw [Str.flat]; exact HR.out,bg.out⟩
end need
namespace ty
open Go.ChangeShapes Go.WideShapes Go.ChangeAt Go.RowKit
end ty
namespace ty
open Go.ChangeShapes Go.WideShapes Go.ChangeAt Go.RowKit
theorem dP : (Tryz.prog.info? 69).map (·.size) = some 3:=by kernel_rfl
end ty
namespace need
open Go Go.RowKit ty lab dedup
theorem zJ (a b c : ByteArray) (h1 : aJ a b = true) (h2 : aJ b c = true) : aJ a c = true:=iW _ _ _ h1 h2
theorem Wh : Ord aJ:=⟨sQ,fun _ _ h1 h2=>mV h1 h2,zJ⟩
theorem Fp {a b : ByteArray} (h : aJ a b = true) : a ≠ b:=fun e=>by rw [e,sQ] at h; cases h
theorem Fw : ∀ a b c : List ByteArray,fU a b = true → fU b c = true → fU a c = true
  | [],[],_,h,_=>by simp [fU] at h
  | _ :: _,[],_,h,_=>by simp [fU] at h
  | _,_ :: _,[],_,h=>by simp [fU] at h
  | [],_ :: _,_ :: _,_,_=>rfl
  | a :: x,b :: y,c :: z,h1,h2=>by
    rw [fU] at h1 h2 ⊢;by_cases e1 : a = b
    · subst e1;rw [if_pos rfl] at h1;by_cases e2 : a = c
      · subst e2;rw [if_pos rfl] at h2 ⊢;exact Fw x y z h1 h2
      · rw [if_neg e2] at h2 ⊢;exact h2
    · rw [if_neg e1] at h1;by_cases e2 : b = c
      · subst e2;rw [if_neg e1];exact h1
      · rw [if_neg e2] at h2;have h3:=zJ _ _ _ h1 h2;rw [if_neg (Fp h3)];exact h3
theorem zK (a b c : Need) (h1 : dA a b = true) (h2 : dA b c = true) : dA a c = true:=by
  unfold dA at h1 h2 ⊢;by_cases k1 : a.key = b.key
  · rw [if_pos k1] at h1;by_cases k2 : b.key = c.key
    · rw [if_pos k2] at h2;rw [if_pos (k1.trans k2)];by_cases o1 : a.op = b.op
      · rw [if_pos o1] at h1;by_cases o2 : b.op = c.op
        · rw [if_pos o2] at h2;rw [if_pos (o1.trans o2)];exact Fw _ _ _ h1 h2
        · rw [if_neg o2] at h2;rw [if_neg (by rw [o1]; exact o2),o1];exact h2
      · rw [if_neg o1] at h1;by_cases o2 : b.op = c.op
        · rw [if_neg (by rw [← o2]; exact o1),← o2];exact h1
        · rw [if_neg o2] at h2;simp only [decide_eq_true_eq] at h1 h2;rw [if_neg (by omega)];simp only [decide_eq_true_eq];omega
    · rw [if_neg k2] at h2;rw [if_neg (by rw [k1]; exact k2),k1];exact h2
  · rw [if_neg k1] at h1;by_cases k2 : b.key = c.key
    · rw [if_neg (by rw [← k2]; exact k1),← k2];exact h1
    · rw [if_neg k2] at h2;have h3:=zJ _ _ _ h1 h2;rw [if_neg (Fp h3)];exact h3
theorem Wi : Ord dA:=⟨sS,rD,zK⟩
def kH (x : Need) : Need:=⟨x.key,x.op,aU aJ x.values⟩
def fH (l : List Need) : List Need:=aU dA (l.map kH)
theorem KE (l : List Need) (x : Need) : fH (l ++ [x]) = iJ dA (kH x) (fH l):=by
  unfold fH;rw [List.map_append];exact pQ _ _ _
theorem nX (l : List Need) : (fH l).length ≤ l.length:=by
  have:=fI dA (l.map kH)
  rwa [List.length_map] at this
def lC (l : List Need) (k : Nat) : Prop:=∀ i (h : i < l.length),i < k → l[i].values.length ≤ 40
open Classical in
noncomputable def iF (l : List Need) : List Need × Bool:=if l.length ≤ 40 ∧ lC l l.length ∧ mF (fH l) then (fH l,true) else (l,false)
theorem j5 {l : List Need} (h : l.length ≤ 40 ∧ lC l l.length ∧ mF (fH l)) : iF l = (fH l,true):=by unfold iF; rw [if_pos h]
theorem kI {l : List Need} (h : ¬ (l.length ≤ 40 ∧ lC l l.length ∧ mF (fH l))) : iF l = (l,false):=by unfold iF; rw [if_neg h]
end need
end Go.Proofs.YtcfbkfmkjggcdaaGreatDoor
