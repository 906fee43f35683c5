/- Merged: SortS DrawList TyTaint FlTaint. -/
import Derived.Test.YtcfbkfmkjggcdaaGreatDoorGA6
import Derived.Test.YtcfbkfmkjggcdaaGreatDoorGA0
import Derived.Deep.RegionLaw
import Derived.Test.YtcfbkfmkjggcdaaGreatDoorGA4
import Derived.Test.YtcfbkfmkjggcdaaGreatDoorGA5
set_option linter.unusedVariables false
namespace Go.Proofs.YtcfbkfmkjggcdaaGreatDoor
namespace lab
open Go.ChangeShapes Go.WideShapes Go.ChangeAt Go.RowKit ty
theorem eY {ops : Array Oper} {o : Oper} {a : Act} {X wd : World} {K : Act → World → Prop} {Q : Exit → Act → World → Prop} {E : Prop}
    (hg : o.guard = none) (hop : o.op = Op.call { callee:=Callee.builtin Builtin.append,args:=#[.tmp 42,.tmp 45],argTypes:=#[24,24] })
    (b : Nat) (hs : a.eval (.tmp 42) = .slice (some ⟨b,0,none⟩) 0 0) (hX : Below wd.heap.size wd X) (hown : X.ownsRow wd.heap.size 65 2 (.slice (some ⟨b,0,none⟩) 0 0) 0 [])
    (A : Option Addr) (k c : Nat) (news : List Label) (hx : a.eval (.tmp 45) = .slice A k c) (hr : jI wd A k 2 (lvals news)) (hk : k ≤ 64)
    (hK : ∀ v' w',w'.ownsRow wd.heap.size 65 2 v' k (lvals news) → Below wd.heap.size wd w' → X.heap.size ≤ w'.heap.size → (∀ q,q < X.heap.size → q ≠ b → w'.heap[q]? = X.heap[q]?) → K (a.put o.dst v') w') :
    if Region.wanted o (yielded ops a.tmps) = true then Oper.wp Tryz.prog o a X K Q else E:=by
  obtain ⟨i0,hi,hz0,hz1,hz2⟩:=info_parts TryzinfoLab;refine dV hg (.tmp 42) (.tmp 45) 24 hop wd.heap.size 65 i0 _ 2 32 Tryz.underlying24 hi hz0 hz1 hz2 rfl (by decide) _ 0 [] hs hown A k c (lvals news) hx (hr.below hX) (iU _) (by unfold maxLen; omega) (by omega) hX.size ?_;intro v' w' h1 h2 h3;rw [Nat.zero_add,List.nil_append] at h1;refine hK v' w' h1 (hX.grown h2 hX.size (fun q hq=>(hown.lt q hq).1)) h2.size (fun q hq hb=>h2.block q hq (fun e=>hb (by simp [Value.ownBlock] at e; omega)))
theorem iR {ops : Array Oper} {o : Oper} {a : Act} {Y wd : World} {K : Act → World → Prop} {Q : Exit → Act → World → Prop} {E : Prop}
    (hg : o.guard = none) (hop : o.op = Op.call { callee:=Callee.builtin Builtin.append,args:=#[.tmp 46,.tmp 51],argTypes:=#[24,24] })
    (v : Value) (k : Nat) (news : List Label) (x : Label) (hs : a.eval (.tmp 46) = v) (hY : Below wd.heap.size wd Y) (hown : Y.ownsRow wd.heap.size 65 2 v k (lvals news))
    (A : Option Addr) (hx : a.eval (.tmp 51) = .slice A 1 1) (hr : jI Y A 1 2 x.cells) (hk : k ≤ 64)
    (hK : ∀ v' w',w'.ownsRow wd.heap.size 65 2 v' (k + 1) (lvals (news ++ [x])) → Below wd.heap.size wd w' → K (a.put o.dst v') w') :
    if Region.wanted o (yielded ops a.tmps) = true then Oper.wp Tryz.prog o a Y K Q else E:=by
  obtain ⟨i0,hi,hz0,hz1,hz2⟩:=info_parts TryzinfoLab;refine dV hg (.tmp 46) (.tmp 51) 24 hop wd.heap.size 65 i0 _ 2 32 Tryz.underlying24 hi hz0 hz1 hz2 rfl (by decide) v k _ hs hown A 1 1 x.cells hx hr (by intro u hu; simp [Label.cells] at hu; rcases hu with rfl | rfl <;> rfl) (by unfold maxLen; omega) (by omega) hY.size ?_;intro v' w' h1 h2 h3;rw [← wT,← je] at h1;exact hK v' w' h1 (hY.grown h2 hY.size (fun q hq=>(hown.lt q hq).1))
theorem jd {w : World} {B : Nat} {e : TypeId} {size n : Nat} {v : Value} {xs : List Value} (h : w.ownsRow B e size v n xs) (hn : 0 < n) : ∃ g c,v = .slice (some ⟨g,0,none⟩) n c:=by
  rcases h.2 with ⟨_,h⟩ | ⟨g,cap,cur,rfl,_⟩
  · omega
  · exact ⟨g,cap,rfl⟩
theorem wP (w : World) : ((w.alloc (.cells #[] 65)).drew).ownsRow w.heap.size 65 2 (.slice (some ⟨w.heap.size,0,none⟩) 0 0) 0 []:=
  World.ownsRow_lit w #[] 0 (Nat.le_refl _) (by simp [maxLen]) rfl
theorem jQ (w : World) (o : Obj) : Below w.heap.size w ((w.alloc o).drew):=((Below.refl _ _).alloc (Nat.le_refl _) _).drew
theorem mQ (w : World) (o p : Obj) : Below w.heap.size w (((w.alloc o).alloc p).drew):=(((Below.refl _ _).alloc (Nat.le_refl _) _).alloc (by simp) _).drew
theorem wQ (w : World) (p : Obj) : (((w.alloc (.cells #[] 65)).alloc p).drew).ownsRow w.heap.size 65 2 (.slice (some ⟨w.heap.size,0,none⟩) 0 0) 0 []:=
  own_below' (World.ownsRow_lit w #[] 0 (Nat.le_refl _) (by simp [maxLen]) rfl) ((Below.refl _ _).alloc (Nat.le_refl _) p).drew
theorem wR (w : World) (p : Obj) : (((w.alloc p).alloc (.cells #[] 65)).drew).ownsRow w.heap.size 65 2 (.slice (some ⟨w.heap.size + 1,0,none⟩) 0 0) 0 []:=by
  have e : w.heap.size + 1 = (w.alloc p).heap.size:=(by simp);rw [e];exact bR (World.ownsRow_lit (w.alloc p) #[] 0 (Nat.le_refl _) (by simp [maxLen]) rfl) (by simp)
theorem sG {w : World} {b : Nat} {x y : ByteArray} (h : w.heap[b]? = some (.cells #[.string x,.string y] 65 (0,0))) : jI w (some ⟨b,0,none⟩) 1 2 [.string x,.string y]:=by
  refine ⟨rfl,fun _=>⟨b,0,rfl,aX h,fun j u hu=>?_⟩⟩;rw [Nat.zero_add,cell_of_row _ _ _ _ _ _ h];simpa using hu
theorem yw {w w' : World} {o : Obj} {x y : ByteArray} (h : ∀ q,q < (((w.alloc o).alloc (.cells #[.string x,.string y] 65)).drew).heap.size → q ≠ w.heap.size → w'.heap[q]? = (((w.alloc o).alloc (.cells #[.string x,.string y] 65)).drew).heap[q]?) : jI w' (some ⟨w.heap.size + 1,0,none⟩) 1 2 [.string x,.string y]:=by
  refine sG ((h _ (by show _ < ((w.alloc o).alloc _).heap.size; simp) (by omega)).trans ?_);have:=heap_alloc_new (w.alloc o) (.cells #[.string x,.string y] 65);have e : (w.alloc o).heap.size = w.heap.size + 1:=(by simp);rw [e] at this;exact this
theorem yx {w w' : World} {o : Obj} {x y : ByteArray} (h : ∀ q,q < (((w.alloc (.cells #[.string x,.string y] 65)).alloc o).drew).heap.size → q ≠ w.heap.size + 1 → w'.heap[q]? = (((w.alloc (.cells #[.string x,.string y] 65)).alloc o).drew).heap[q]?) : jI w' (some ⟨w.heap.size,0,none⟩) 1 2 [.string x,.string y]:=by
  refine sG ((h _ (by show _ < ((w.alloc _).alloc o).heap.size; simp <;> omega) (by omega)).trans ?_);have e : w.heap.size < (w.alloc (.cells #[.string x,.string y] 65)).heap.size:=(by simp);exact (Below.heap_alloc (w.alloc (.cells #[.string x,.string y] 65)) o w.heap.size e).trans (heap_alloc_new w _)
theorem fD (w : World) (x y : ByteArray) : jI (w.alloc (.cells #[.string x,.string y] 65)) (some ⟨w.heap.size,0,none⟩) 1 2 [.string x,.string y]:=by
  refine ⟨rfl,fun _=>⟨_,0,rfl,by simp,fun j u hu=>?_⟩⟩;rw [Nat.zero_add,cell_of_row _ _ _ _ _ _ (heap_alloc_new w _)];simpa using hu
set_option maxRecDepth 1000000 in
set_option maxHeartbeats 8000000 in
theorem wV (l : List Label) (f : Nat) (v : Value) (w : World) (h : bf w f v (.sl 2 l.length (l.flatMap Label.row))) (hz : Small l) (hn : l.length ≤ 1048576) :
    Calls Tryz.prog 42 #[v] w fun e w'=>dB w w' e 2 Label.row (eB l):=by
  obtain ⟨A,c,rfl,hc1,hc2,f',rfl,hk⟩:=bD Label.au h;unfold maxLen at hc2;obtain ⟨hrd,hwf⟩:=gI hk;obtain ⟨i0,hi,hz0,hz1,hz2⟩:=info_parts TryzinfoLab;obtain ⟨w1,hw1⟩ : ∃ w1,w1 = w.alloc (.cells #[] 65):=⟨_,rfl⟩;have hb1 : Below w.heap.size w w1:=(by rw [hw1]; exact (Below.refl _ _).alloc (Nat.le_refl _) _);have hown1 : w1.ownsRow w.heap.size 65 2 (.slice (some ⟨w.heap.size,0,none⟩) 0 0) 0 []:=(by rw [hw1]; exact World.ownsRow_lit w #[] 0 (Nat.le_refl _) (by simp [maxLen]) rfl);have eT:=Lib.hid hw1;have jV:=Lib.hid hown1;have iV:=Lib.hid (hrd.below hb1);have Hb1:=Lib.hid hb1;have Hk:=Lib.hid hk;have eU:=Lib.hid hwf;have Hz:=Lib.hid hz;clear h hk hw1 hown1 hb1 hrd hwf hz;by_cases h6 : 6 < l.length
  · rw [Dr (by omega)];go_enter Tryz.func42,Tryz.ntmps42;go_wp2_with (first | (rw [← eT.out]; refine aB rfl (.tmp 9) (.tmp 10) 24 rfl w.heap.size 65 i0 _ 2 32 Tryz.underlying24 hi hz0 hz1 hz2 rfl (by decide) _ 0 [] rfl jV.out A l.length c (lvals l) rfl iV.out (iU l) (by unfold maxLen; omega) (by omega) Hb1.out.size ?_) | fail);intro v2 w2 hown2 hg2 zk;have Hb2:=Lib.hid (Hb1.out.grown hg2 Hb1.out.size (fun b hb=>by simp [Value.ownBlock] at hb; omega));obtain ⟨F,ho,hnd,hrg⟩:=gQ hown2 eU.out;obtain ⟨A2,c2,rfl⟩:=aW hown2;have HR:=Lib.hid (show dB w w2 (.returned (.tuple #[.slice A2 l.length c2,.bool false])) 2 Label.row (l,false) from ⟨_,1,F,rfl,ho,hnd,Hb2.out⟩);clear hown2 hg2 zk ho hnd hrg;go_wp2_with fail
    go_ret2
    exact HR.out
  go_enter Tryz.func42,Tryz.ntmps42;go_wp2_with (first | (rw [← eT.out]; refine aB rfl (.tmp 9) (.tmp 10) 24 rfl w.heap.size 65 i0 _ 2 32 Tryz.underlying24 hi hz0 hz1 hz2 rfl (by decide) _ 0 [] rfl jV.out A l.length c (lvals l) rfl iV.out (iU l) (by unfold maxLen; omega) (by omega) Hb1.out.size ?_) | fail);intro v2 w2 hown2 hg2 zk;have hb2:=Hb1.out.grown hg2 Hb1.out.size (fun b hb=>by simp [Value.ownBlock] at hb; omega);obtain ⟨A2,c2,rfl⟩:=aW hown2;obtain ⟨w3,hw3⟩ : ∃ w3,w3 = w2.alloc (.cells #[] 65):=⟨_,rfl⟩;have hb3 : Below w2.heap.size w2 w3:=(by rw [hw3]; exact (Below.refl _ _).alloc (Nat.le_refl _) _);have hown3 : w3.ownsRow w2.heap.size 65 2 (.slice (some ⟨w2.heap.size,0,none⟩) 0 0) 0 []:=(by rw [hw3]; exact World.ownsRow_lit w2 #[] 0 (Nat.le_refl _) (by simp [maxLen]) rfl);have q8:=Lib.hid hown2;have ku:=Lib.hid hown3;have Hb2:=Lib.hid hb2;have Hb3:=Lib.hid hb3;have G7:=Lib.hid hw3;have hge : w.heap.size ≤ w2.heap.size:=hb2.size;clear hown2 hown3 hg2 zk hb2 hb3 hw3 eT jV iV Hb1;go_wp2_with fail;rw [← G7.out]
  go_loopw [5,6] (fun vo i wr=>∃ (j g cg : Nat),j ≤ l.length ∧ i = .int .i64 j ∧ vo = .slice (some ⟨g,0,none⟩) j cg ∧ wr.ownsRow w2.heap.size 65 2 (.slice (some ⟨g,0,none⟩) j cg) j (lvals (sorted (l.take j))) ∧ Below w2.heap.size w2 wr) (fun _ i _=>l.length - (intOf i).toNat)
  case atStart=>exact ⟨0,w2.heap.size,0,Nat.zero_le _,rfl,rfl,by simpa [sorted,lvals] using ku.out,Hb3.out⟩
  case round=>
    clear ku G7 Hb3;obtain ⟨wo,rfl⟩ : ∃ wo,wo = wr:=⟨_,rfl⟩;obtain ⟨j,g,cg,hj,rfl,rfl,hown,hbel⟩:=hrel;obtain ⟨S,hS⟩ : ∃ S,S = sorted (l.take j):=⟨_,rfl⟩;have hSS:=hS;rw [← hS] at hown;have PI : S.length = j:=(by rw [hS,lI,List.length_take]; omega);by_cases hlt : j < l.length
    · have hbw : Below w.heap.size w wo:=ah Hb2.out hbel Hb2.out.size;obtain ⟨g1,o1,rfl,hg1,us,kN,hcc,hls⟩:=(Hk.out.below hbw).get hlt;obtain ⟨rfl,MI⟩:=Label.opened hls;have q0 : wo.cell? ⟨g1,o1 + j * 2,none⟩ = some (.string l[j].key):=hcc 0 _ rfl;have q1 : wo.cell? ⟨g1,o1 + j * 2 + 1,none⟩ = some (.string l[j].value):=hcc 1 _ rfl;have XZ : sorted (l.take (j + 1)) = ins l[j] S:=(by rw [List.take_succ_eq_append_getElem hlt,EJ,hS]);have AX:=Lib.hid XZ;have yA:=Lib.hid PI
      obtain ⟨Qf,Qg⟩ : j ≤ cg ∧ cg ≤ 9223372036854775807:=by
        obtain ⟨c',e,h1,h2,_⟩:=iB hown rfl;injection e with _ _ e;subst e;exact ⟨h1,h2⟩
      have dY:=Lib.hid hown;have bg:=Lib.hid hbel;have mq : g < wo.heap.size:=(hown.lt g rfl).2;have X4 : w2.heap.size ≤ g:=(hown.lt g rfl).1
      have hrows : ∀ q (h : q < S.length),wo.cell? ⟨g,q * 2,none⟩ = some (.string S[q].key):=fun q h=>by
        have:=hown.cells (g:=g) rfl (q * 2) (.string S[q].key) (by
          have:=gq (f:=Label.cells) (sz:=2) (fun _=>rfl) S q 0 _ (List.getElem?_eq_getElem h) (by omega);simpa [lvals,Label.cells] using this)
        rwa [Addr.add_lit,Nat.zero_add] at this
      have MJ:=Lib.hid hrows;clear hrows hown hbel hcc hls kN MI hS XZ PI hSS;obtain ⟨x,hx⟩ : ∃ x,x = l[j]:=⟨_,rfl⟩;rw [← hx] at q0 q1 AX;clear hx;go_wp2_with fail
      go_loopw [7] (fun kv wi=>∃ k : Nat,k ≤ j ∧ kv = .int .i64 k ∧ Hid (∀ q (h : q < k) (h2 : q < S.length),aJ x.key S[q].key = false) ∧ ∃ n,wi = wo.drewN n) (fun kv _=>j - (intOf kv).toNat)
      case atStart=>exact ⟨0,Nat.zero_le _,rfl,fun q h=>by omega,0,rfl⟩
      case round=>
        obtain ⟨wi,rfl⟩ : ∃ wi,wi = wr:=⟨_,rfl⟩;obtain ⟨k,hkj,rfl,hall,n0,hwi⟩:=hrel;have yB : Hid (∃ n,wi = wo.drewN n):=⟨n0,hwi⟩;have p0 : wi.cell? ⟨g1,o1 + j * 2,none⟩ = some (.string x.key):=(by rw [hwi]; exact q0);have p1 : wi.cell? ⟨g1,o1 + j * 2 + 1,none⟩ = some (.string x.value):=(by rw [hwi]; exact q1);by_cases hkl : k < j
        · have VQ : k < S.length:=(by rw [yA.out]; exact hkl);have r0 : wi.cell? ⟨g,k * 2,none⟩ = some (.string S[k].key):=(by rw [hwi]; exact MJ.out k VQ);clear hwi;cases hb : aJ x.key S[k].key with
          | false=>
            have jK : Hid (∀ q (h : q < k + 1) (h2 : q < S.length),aJ x.key S[q].key = false):=fun q h h2=>by
              by_cases e : q = k
              · subst e; exact hb
              · exact hall.out q (by omega) h2
            unfold aJ at hb;have hb:=(Dt _ _).trans (congrArg Bool.not hb);clear hall;generalize S[k].key = z at r0 hb;go_wp2_with fail
            go_quiet (fail)
            go_wp2_with fail
            go_roundw
            case rel=>exact ⟨k + 1,by omega,by go_num,jK.out,dU yB.out _⟩
            case measure=>simp [intOf]; omega
          | true=>
            have kC:=Lib.hid (MF (by omega) (fun q h=>hall.out q h (by omega)) (fun h=>hb));clear hall;unfold aJ at hb;have hb:=(Dt _ _).trans (congrArg Bool.not hb);generalize S[k].key = z at r0 hb;go_wp2_with fail
            go_quiet (fail)
            clear hb r0;obtain ⟨wd,hwd⟩ : ∃ wd,wd = wi.drewN nq:=⟨_,rfl⟩
            have hbd : Below wo.heap.size wo wd:=by
              obtain ⟨n,hn⟩:=dU yB.out nq;rw [hwd,hn];exact below_drewN (Below.refl _ _) n
            have eu:=own_below' dY.out hbd;have iw:=fT eu 0 0 k (by omega) (by omega);rw [Nat.zero_mul,List.drop_zero,ze] at iw;have e0 : wd.cell? ⟨g1,o1 + j * 2,none⟩ = some (.string x.key):=(by rw [hwd]; exact p0);have e1 : wd.cell? ⟨g1,o1 + j * 2 + 1,none⟩ = some (.string x.value):=(by rw [hwd]; exact p1);have iV:=Lib.hid iw;have oP:=Lib.hid eu;have kP:=Lib.hid hbd;rw [← hwd];clear hwd hbd eu iw p0 p1;go_wp2_with fail;have fJ : k ≤ 64:=(by omega);have hkc : k ≤ cg:=(by omega);have VR : k ≤ j:=(by omega);have kW : g1 < wd.heap.size:=Nat.lt_of_lt_of_le hg1 kP.out.size;obtain ⟨xk,hxk⟩ : ∃ y,y = x.key:=⟨_,rfl⟩;obtain ⟨xv,hxv⟩ : ∃ y,y = x.value:=⟨_,rfl⟩;rw [← hxk] at e0;rw [← hxv] at e1;have Hx : Hid ((⟨xk,xv⟩ : Label) = x):=(by rw [hxk,hxv]; rfl);clear hxk hxv
            go_region_law (first
              | (refine eY (wd:=wd) rfl rfl _ rfl ?_ ?_ (some ⟨g,0,none⟩) k cg (S.take k) rfl iV.out fJ ?_
                 · first | exact jQ _ _ | exact mQ _ _ _
                 · first | exact wP _ | exact wQ _ _ | exact wR _ _
                 intro v5 w5 hown5 hb5 hs5 bN;have MK:=(World.cell?_of_block (hb5.block g1 kW)).trans e0;have e15:=(World.cell?_of_block (hb5.block g1 kW)).trans e1
                 first | have jy:=yw bN | have jy:=yx bN | skip)
              | (refine iR (wd:=wd) rfl rfl _ k (S.take k) ⟨xk,xv⟩ rfl ?_ ?_ (some ⟨_,0,none⟩) rfl ?_ fJ ?_
                 · first | exact hb5 | exact hb5.alloc hb5.size _
                 · first | exact hown5 | exact own_below' hown5 ((Below.refl _ _).alloc (Nat.le_refl _) _)
                 · first | exact jy | exact fD w5 _ _
                 intro v6 w6 hown6 hb6))
            all_goals
              obtain ⟨g6,c6,rfl⟩:=jd hown6 (by omega);have gZ:=(fT oP.out k (k * 2) (j - k) rfl (by omega)).below hb6;rw [zf,List.take_of_length_le (by rw [fA,List.length_drop,yA.out]; exact Nat.le_refl _)] at gZ;have nK:=Lib.hid gZ;have gD:=Lib.hid hown6;have zl:=Lib.hid hb6;have l7:=Lib.hid (ah bg.out (ah kP.out hb6 kP.out.size) bg.out.size);have hwd2 : w2.heap.size ≤ wd.heap.size:=Nat.le_trans bg.out.size kP.out.size;have uL : w2.heap.size ≤ w6.heap.size:=l7.out.size;have hdr : S.length = j:=yA.out;clear gZ hown6 hb6 hown5 hb5 hs5 bN MK e15 e0 e1;go_wp2_with (first | (refine aB rfl (.tmp 53) (.tmp 56) 24 rfl wd.heap.size 65 i0 _ 2 32 Tryz.underlying24 hi hz0 hz1 hz2 rfl (by decide) _ (k + 1) _ rfl gD.out _ (j - k) _ (lvals (S.drop k)) rfl (nK.out) (iU _) (by unfold maxLen; omega) (by omega) zl.out.size ?_) | fail)
              all_goals
                intro v7 w7 h7 gM ig;have en : k + 1 + (j - k) = j + 1:=(by omega)
                have e7 : lvals (S.take k ++ [⟨xk,xv⟩]) ++ lvals (S.drop k) = lvals (sorted (l.take (j + 1))):=by
                  rw [AX.out,kC.out,Hx.out];rw [← je,List.append_assoc]; rfl
                rw [e7] at h7
                try rw [en] at h7
                obtain ⟨g7,c7,rfl⟩:=jd h7 (by omega);have jW:=Lib.hid (bR h7 hwd2);have yC:=Lib.hid (l7.out.grown gM uL (fun b hb=>by have:=(gD.out.lt b hb).1; omega));clear h7 gM ig e7;go_wp2_with fail
                go_roundw
                case rel=>exact ⟨j + 1,g7,c7,by omega,by go_num,rfl,jW.out,yC.out⟩
                case measure=>simp [intOf]; omega
        · obtain rfl : j = k:=(by omega);have kC:=Lib.hid (MF (x:=x) (l:=S) (k:=j) (by rw [yA.out]; exact Nat.le_refl _) (fun q h=>hall.out q h (by rw [yA.out]; exact h)) (fun h=>absurd h (by rw [yA.out]; exact Nat.lt_irrefl _)));clear hall hwi;go_wp2_with fail
          go_quiet (fail)
          obtain ⟨wd,hwd⟩ : ∃ wd,wd = wi.drewN nq:=⟨_,rfl⟩
          have hbd : Below wo.heap.size wo wd:=by
            obtain ⟨n,hn⟩:=dU yB.out nq;rw [hwd,hn];exact below_drewN (Below.refl _ _) n
          have eu:=own_below' dY.out hbd;have iw:=fT eu 0 0 j (by omega) (by omega);rw [Nat.zero_mul,List.drop_zero,ze] at iw;have e0 : wd.cell? ⟨g1,o1 + j * 2,none⟩ = some (.string x.key):=(by rw [hwd]; exact p0);have e1 : wd.cell? ⟨g1,o1 + j * 2 + 1,none⟩ = some (.string x.value):=(by rw [hwd]; exact p1);have iV:=Lib.hid iw;have oP:=Lib.hid eu;have kP:=Lib.hid hbd;rw [← hwd];clear hwd hbd eu iw p0 p1;go_wp2_with fail;have fJ : j ≤ 64:=(by omega);have hkc : j ≤ cg:=(by omega);have VR : j ≤ j:=(by omega);have kW : g1 < wd.heap.size:=Nat.lt_of_lt_of_le hg1 kP.out.size;obtain ⟨xk,hxk⟩ : ∃ y,y = x.key:=⟨_,rfl⟩;obtain ⟨xv,hxv⟩ : ∃ y,y = x.value:=⟨_,rfl⟩;rw [← hxk] at e0;rw [← hxv] at e1;have Hx : Hid ((⟨xk,xv⟩ : Label) = x):=(by rw [hxk,hxv]; rfl);clear hxk hxv
          go_region_law (first
            | (refine eY (wd:=wd) rfl rfl _ rfl ?_ ?_ (some ⟨g,0,none⟩) j cg (S.take j) rfl iV.out fJ ?_
               · first | exact jQ _ _ | exact mQ _ _ _
               · first | exact wP _ | exact wQ _ _ | exact wR _ _
               intro v5 w5 hown5 hb5 hs5 bN;have MK:=(World.cell?_of_block (hb5.block g1 kW)).trans e0;have e15:=(World.cell?_of_block (hb5.block g1 kW)).trans e1
               first | have jy:=yw bN | have jy:=yx bN | skip)
            | (refine iR (wd:=wd) rfl rfl _ j (S.take j) ⟨xk,xv⟩ rfl ?_ ?_ (some ⟨_,0,none⟩) rfl ?_ fJ ?_
               · first | exact hb5 | exact hb5.alloc hb5.size _
               · first | exact hown5 | exact own_below' hown5 ((Below.refl _ _).alloc (Nat.le_refl _) _)
               · first | exact jy | exact fD w5 _ _
               intro v6 w6 hown6 hb6))
          all_goals
            obtain ⟨g6,c6,rfl⟩:=jd hown6 (by omega);have gZ:=(fT oP.out j (j * 2) (j - j) rfl (by omega)).below hb6;rw [zf,List.take_of_length_le (by rw [fA,List.length_drop,yA.out]; exact Nat.le_refl _)] at gZ;have nK:=Lib.hid gZ;have gD:=Lib.hid hown6;have zl:=Lib.hid hb6;have l7:=Lib.hid (ah bg.out (ah kP.out hb6 kP.out.size) bg.out.size);have hwd2 : w2.heap.size ≤ wd.heap.size:=Nat.le_trans bg.out.size kP.out.size;have uL : w2.heap.size ≤ w6.heap.size:=l7.out.size;have hdr : S.length = j:=yA.out;clear gZ hown6 hb6 hown5 hb5 hs5 bN MK e15 e0 e1;go_wp2_with (first | (refine aB rfl (.tmp 53) (.tmp 56) 24 rfl wd.heap.size 65 i0 _ 2 32 Tryz.underlying24 hi hz0 hz1 hz2 rfl (by decide) _ (j + 1) _ rfl gD.out _ (0) _ (([] : List Value)) rfl (jI.nil _ _ _) (fun u hu=>by cases hu) (by unfold maxLen; omega) (by omega) zl.out.size ?_) | fail)
            all_goals
              intro v7 w7 h7 gM ig;have en : j + 1 + (j - j) = j + 1:=(by omega)
              have e7 : lvals (S.take j ++ [⟨xk,xv⟩]) = lvals (sorted (l.take (j + 1))):=by
                rw [AX.out,kC.out,Hx.out];rw [List.take_of_length_le (by omega),List.drop_of_length_le (by omega)]
              rw [e7] at h7
              try rw [en] at h7
              obtain ⟨g7,c7,rfl⟩:=jd h7 (by omega);have jW:=Lib.hid (bR h7 hwd2);have yC:=Lib.hid (l7.out.grown gM uL (fun b hb=>by have:=(gD.out.lt b hb).1; omega));clear h7 gM ig e7;go_wp2_with fail
              go_roundw
              case rel=>exact ⟨j + 1,g7,c7,by omega,by go_num,rfl,jW.out,yC.out⟩
              case measure=>simp [intOf]; omega
    · obtain rfl : j = l.length:=(by omega);clear hS PI;rw [List.take_length] at hSS;subst hSS;have hlen:=lI l;have hbw:=ah Hb2.out hbel Hb2.out.size;obtain ⟨F,ho,hnd,hrg⟩:=gQ (by rw [hlen]; exact bR hown hge) (Kn eU.out);obtain ⟨F2,ho2,zm,hrg2⟩:=gQ (own_below' q8.out hbel) eU.out;have HC:=Lib.hid (rz (sorted l) _ _ wo ho.lies (Dp Hz.out));have HR1:=Lib.hid (fun n=>show dB w (wo.drewN n) (.returned (.tuple #[.slice (some ⟨g,0,none⟩) l.length cg,.bool true])) 2 Label.row (sorted l,true) from ⟨_,1,F,rfl,ho.below (below_drewN (Below.refl _ _) n),hnd,below_drewN hbw n⟩);have HR2:=Lib.hid (fun n=>show dB w (wo.drewN n) (.returned (.tuple #[.slice A2 l.length c2,.bool false])) 2 Label.row (l,false) from ⟨_,1,F2,rfl,ho2.below (below_drewN (Below.refl _ _) n),zm,below_drewN hbw n⟩);clear hown hbel hlen hbw ho ho2 hnd zm hrg hrg2;by_cases hP : dw (sorted l)
      · rw [aQ hP] at HC;have HS:=Lib.hid (EK (l:=l) (by omega) hP);clear hP;go_wp2_with fail;refine HC.out.mono ?_;rintro e w4 ⟨rfl,n1,rfl⟩;go_wp2_with fail
        go_ret2
        rw [HS.out];exact HR1.out _
      · rw [aP hP] at HC;have HS:=Lib.hid (Dr (l:=l) (fun h=>hP h.2));clear hP;go_wp2_with fail;refine HC.out.mono ?_;rintro e w4 ⟨rfl,n1,rfl⟩;go_wp2_with fail
        go_ret2
        rw [HS.out];exact HR2.out _
end lab
namespace draw
open Go.ChangeShapes Go.WideShapes Go.ChangeAt Go.RowKit ty lab
def VT (P : List Label → Prop) (c : Nat) (A : Option Addr) (len cap : Nat) (z : Nat → Int) (w : World) (e : Ending) (w' : World) : Prop:=
  ∃ (l : List Label) (v : Value) (f : Nat) (F : List Nat),P l ∧ e = .returned v ∧ Own w' w.heap.size (f + 1) v (.sl 2 l.length (l.flatMap Label.row)) F ∧ F.Nodup ∧ jJ w' c A len cap z ∧ w.grownBy w' (some c)
def Tiny (m : Nat) (l : List Label) : Prop:=∀ x ∈ l,x.key.size ≤ m ∧ x.value.size ≤ m
theorem Tiny.wf {m : Nat} {l : List Label} (h : Tiny m l) (hm : m ≤ 1000) : ∀ x ∈ l,x.Wf:=fun x hx=>by
  have:=h x hx;exact ⟨by unfold maxLen; omega,by unfold maxLen; omega⟩
theorem Tiny.small {m : Nat} {l : List Label} (h : Tiny m l) (hm : m ≤ 1000) : Small l:=fun x hx=>by
  have:=h x hx;exact ⟨by omega,by omega⟩
theorem Tiny.snoc {m : Nat} {l : List Label} (h : Tiny m l) {x : Label} (h1 : x.key.size ≤ m) (h2 : x.value.size ≤ m) : Tiny m (l ++ [x]):=fun y hy=>by
  rcases List.mem_append.1 hy with hy | hy
  · exact h y hy
  · rw [List.mem_singleton] at hy; subst hy; exact ⟨h1,h2⟩
theorem Tiny.sorted {m : Nat} {l : List Label} (h : Tiny m l) : Tiny m (sorted l):=fun y hy=>by
  rcases pU l [] hy with hy | hy
  · exact h y hy
  · cases hy
theorem Jm {w w' : World} {c B f : Nat} {v : Value} {d : C} {F : List Nat} (h : Own w B f v d F) (hB : c < B) (hg : w.grownBy w' (some c)) : Own w' B f v d F:=
  h.kept fun x hx=>hg.block x (h.range x hx).2 (fun e=>by have:=(h.range x hx).1; injection e with e; omega)
theorem Dz {w w' : World} {B c k : Nat} {e : TypeId} {v : Value} {n : Nat} {xs : List Value} (h : w.ownsRow B e k v n xs) (hB : c < B) (hg : w.grownBy w' (some c)) : w'.ownsRow B e k v n xs:=
  h.kept hg (by
    cases hv : v.ownBlock with
    | none=>exact .inl rfl
    | some q=>exact .inr (fun e=>by
        have:=(h.lt q hv).1;injection e with e;omega))
set_option maxRecDepth 1000000 in
set_option maxHeartbeats 8000000 in
theorem zn (c : Nat) (A : Option Addr) (len cap : Nat) (z : Nat → Int) (w : World) (hc : jJ w c A len cap z) :
    Calls Tryz.prog 140 #[.pointer (some ⟨c,0,none⟩)] w (VT (fun l=>l.length ≤ 6 ∧ Tiny 5 l) c A len cap z w):=by
  obtain ⟨i0,hi,hz0,hz1,hz2⟩:=info_parts TryzinfoLab;have aL:=hc.lt;have hown0 : (w.alloc (.cells #[] 65)).ownsRow w.heap.size 65 2 (.slice (some ⟨w.heap.size,0,none⟩) 0 0) 0 (lvals []):=World.ownsRow_lit w #[] 0 (Nat.le_refl _) (by simp [maxLen]) rfl;obtain ⟨F0,ho0,hn0,_⟩:=gQ (l:=[]) hown0 (by intro x hx; cases hx);have ML:=Lib.hid ho0;have Tg:=Lib.hid hn0;have Ti:=Lib.hid (dD hc (.cells #[] 65));have Tj:=Lib.hid (bX w (.cells #[] 65) (some c));clear hc hown0 ho0 hn0;go_enter Tryz.func140,Tryz.ntmps140;go_wp2_with fail
  go_loopw [3,4] (fun vo i wr=>∃ (j : Nat) (l : List Label) (f : Nat) (F : List Nat),j ≤ 4 ∧ i = .int .i64 j ∧ l.length ≤ 6 ∧ Hid (Tiny 5 l) ∧ Own wr w.heap.size (f + 1) vo (.sl 2 l.length (l.flatMap Label.row)) F ∧ Hid F.Nodup ∧ jJ wr c A len cap z ∧ w.grownBy wr (some c)) (fun _ i _=>4 - (intOf i).toNat)
  case atStart=>exact ⟨0,[],1,F0,by omega,rfl,by simp,(by intro x hx; cases hx),ML.out,Tg.out,Ti.out,Tj.out⟩
  case round=>
    clear ML Tg Ti Tj;obtain ⟨j,l,f,F,hj,rfl,PK,jX,ho,hnd,hcur,hgr⟩:=hrel;have HB:=Lib.hid (bM c A len cap z 4 wr hcur (by decide) (by decide));obtain ⟨Ao,co,rfl,VU,Ko,_⟩:=bD Label.au ho.lies;unfold maxLen at Ko;have Ho:=Lib.hid ho;have nI:=Lib.hid hgr;clear ho hgr hcur;go_wp2_with fail;refine HB.out.mono ?_;rintro e w1 ⟨x,hx,rfl,hc1,hg1⟩;have ho1:=Jm Ho.out aL hg1;have Tk:=Lib.hid ho1;have zo:=Lib.hid (aA nI.out hg1);have GQ:=Lib.hid hc1;have qx:=hc1.lt;obtain ⟨A',c',hA',_,_,f',hf',hels⟩:=bD Label.au ho1.lies;injection hA' with a1 a2 a3;subst a1 a3;obtain ⟨hrd,_⟩:=gI hels;have gZ:=hrd.below ((Below.refl w1.heap.size w1).alloc (Nat.le_refl _) (.cells #[] 65));have nK:=Lib.hid gZ;have kX:=Lib.hid (show (w1.alloc (.cells #[] 65)).ownsRow w1.heap.size 65 2 (.slice (some ⟨w1.heap.size,0,none⟩) 0 0) 0 [] from World.ownsRow_lit w1 #[] 0 (Nat.le_refl _) (by simp [maxLen]) rfl);clear hg1 hc1 ho1 hels hrd gZ hf' Ho nI HB;by_cases hlt : (j : Int) < x
    · have hj3 : j + 1 ≤ 4:=(by omega);go_wp2_with (first | (at_builtin; refine aB rfl (.tmp 15) (.tmp 16) 24 rfl w1.heap.size 65 i0 _ 2 32 Tryz.underlying24 hi hz0 hz1 hz2 rfl (by decide) _ 0 [] rfl kX.out Ao l.length co (lvals l) rfl nK.out (iU l) (by unfold maxLen; omega) (by omega) (by simp) ?_) | fail);intro v3 w3 hown3 hg3 MN;obtain ⟨A3,c3,rfl⟩:=aW hown3;have hb3:=Below.grown ((Below.refl w1.heap.size w1).alloc (Nat.le_refl _) (.cells #[] 65)) hg3 (by simp) (fun b hb=>by simp [Value.ownBlock] at hb; omega);have Hb3:=Lib.hid hb3;have ku:=Lib.hid hown3;have HK:=Lib.hid (mO c A len cap z w3 (GQ.out.below (hb3.mono (show c + 1 ≤ w1.heap.size from qx)) (Nat.lt_succ_self c)));clear hown3 hg3 MN hb3 kX nK;go_wp2_with fail;refine HK.out.mono ?_;rintro e w4 ⟨k,hk,rfl,hc4,hg4⟩;have HV:=Lib.hid (mP c A len cap z w4 hc4);have XQ:=Lib.hid hg4;clear hc4 hg4 HK;go_wp2_with fail;refine HV.out.mono ?_;rintro e w5 ⟨y,hy,rfl,mH,hg5⟩;have kT:=Lib.hid (Dz (Dz ku.out qx XQ.out) qx hg5);have MO:=Lib.hid (aA (aA (aR Hb3.out (some c)) XQ.out) hg5);have Qh:=Lib.hid mH;have hs5 : w1.heap.size ≤ w5.heap.size:=MO.out.size;clear mH hg5 HV ku Hb3 XQ;go_wp2_with (first | (at_builtin; refine aB rfl (.tmp 17) (.tmp 23) 24 rfl w1.heap.size 65 i0 _ 2 32 Tryz.underlying24 hi hz0 hz1 hz2 rfl (by decide) _ l.length _ rfl (own_below' kT.out ((Below.refl _ _).alloc (Nat.le_refl _) _)) (some ⟨w5.heap.size,0,none⟩) 1 1 [.string k,.string y] rfl (yK w5 k y) (by intro u hu; simp at hu; rcases hu with rfl | rfl <;> rfl) (by unfold maxLen; omega) (by omega) (by simp; omega) ?_) | fail);intro v7 w7 gT gM ig;obtain ⟨xl,hxl⟩ : ∃ q : Label,q = ⟨k,y⟩:=⟨_,rfl⟩;have rA : w7.ownsRow w1.heap.size 65 2 v7 (l ++ [xl]).length (lvals (l ++ [xl])):=(by rw [je,wT,List.length_append,hxl]; exact gT);have nP : Below w1.heap.size w5 w7:=Below.grown ((Below.refl w1.heap.size w5).alloc hs5 _) gM (by simp; omega) (fun b hb=>(kT.out.lt b hb).1);have MP:=Lib.hid (aK MO.out (nP.mono (Nat.le_refl _)));have Tm:=Lib.hid (Qh.out.below (nP.mono (show c + 1 ≤ w1.heap.size from qx)) (Nat.lt_succ_self c));have htl : Tiny 5 (l ++ [xl]):=(by rw [hxl]; exact jX.out.snoc hk (by show y.size ≤ 5; omega));obtain ⟨A7,c7,rfl⟩:=aW rA;obtain ⟨F7,Jo,VW,_⟩:=gQ rA (htl.wf (by omega));have HS:=Lib.hid (wV (l ++ [xl]) _ _ w7 Jo.lies (htl.small (by omega)) (by simp; omega))
      have nQ : Hid ((eB (l ++ [xl])).2 = true → (eB (l ++ [xl])).1.length ≤ 6 ∧ Tiny 5 (eB (l ++ [xl])).1):=fun h=>by
        unfold eB at h ⊢
        split at h
        · next h3=>rw [if_pos h3]; exact ⟨h3.2.1,htl.sorted⟩
        · cases h
      have hs7 : w1.heap.size ≤ w7.heap.size:=MP.out.size;rw [List.length_append,List.length_singleton] at HS;clear gT rA gM ig nP Jo VW htl kT MO Qh;generalize eB (l ++ [xl]) = r at HS nQ;obtain ⟨r1,r2⟩:=r;go_wp2_with fail;refine HS.out.mono ?_;rintro e w8 ⟨v8,f8,F8,rfl,MQ,Tn,G8⟩;have X5:=Lib.hid (MQ.lower (show w.heap.size ≤ w7.heap.size from Nat.le_trans zo.out.size hs7));have X6:=Lib.hid Tn;have Tp:=Lib.hid (aK MP.out (G8.mono hs7));have Tq:=Lib.hid (Tm.out.below (G8.mono (show c + 1 ≤ w7.heap.size by omega)) (Nat.lt_succ_self c));have MR:=Lib.hid (Jm Tk.out aL Tp.out);have EM:=Lib.hid (aA zo.out Tp.out);obtain ⟨A8,c8,rfl,_,_,_⟩:=bD Label.au MQ.lies;clear MQ Tn G8 HS MP Tm;cases r2 with
      | true=>
        have hgd:=nQ.out rfl;have X7:=Lib.hid hgd.2;have Tt : r1.length ≤ 6:=hgd.1;clear hgd nQ;go_wp2_with fail
        go_roundw
        case rel=>exact ⟨j + 1,r1,f8,F8,hj3,by go_num,Tt,X7.out,X5.out,X6.out,Tq.out,EM.out⟩
        case measure=>simp [intOf]; omega
      | false=>
        clear nQ;go_wp2_with fail
        go_roundw
        case rel=>exact ⟨j + 1,l,f,F,hj3,by go_num,PK,jX.out,MR.out,hnd.out,Tq.out,EM.out⟩
        case measure=>simp [intOf]; omega
    · go_wp2_with fail;go_ret;exact ⟨l,_,f,F,⟨PK,jX.out⟩,rfl,Tk.out,hnd.out,GQ.out,zo.out⟩
end draw
namespace ty
open Go Go.RowKit
structure av where
  key : ByteArray
  value : ByteArray
  effect : Int
namespace av
def row (x : av) : List C:=[.str x.key,.str x.value,.int .i64 x.effect]
theorem au (x : av) : x.row.length = 3:=rfl
def wt (x : av) : Nat:=x.key.size + x.value.size
def cost (_ : av) : Nat:=3
def mark (_ : av) (k : Int) : av:=⟨(lawMark.mt k),(lawMark.mt (k + 1)),(k + 2)⟩
def Wf (x : av) : Prop:=x.key.size ≤ maxLen ∧ x.value.size ≤ maxLen ∧ (Lit.int .i64 x.effect).wf = true
theorem opened {w : World} {f : Nat} {us : List Value} {x : av} (h : aH w f us x.row) : us = [.string x.key,.string x.value,.int .i64 x.effect] ∧ x.Wf:=by
  obtain ⟨v0,_,rfl,l0,h⟩:=h.bO;obtain ⟨v1,_,rfl,l1,h⟩:=h.bO;obtain ⟨v2,_,rfl,l2,h⟩:=h.bO;obtain rfl:=h.nO;obtain ⟨rfl,w0⟩:=l0.str;obtain ⟨rfl,w1⟩:=l1.str;obtain ⟨rfl,w2⟩:=l2.int;exact ⟨rfl,w0,w1,w2⟩
theorem owned {w : World} {B f : Nat} {x : av} (h : x.Wf) : bq w B (f + 1) [.string x.key,.string x.value,.int .i64 x.effect] x.row []:=by
  obtain ⟨w0,w1,w2⟩:=h;exact bq.cons (lH w0) (bq.cons (lH w1) (bq.cons (mD w2) (bq.nil)))
end av
end ty
namespace ty
open Go Go.RowKit
def av.cells (x : av) : List Value:=[.string x.key,.string x.value,.int .i64 x.effect]
theorem av.aD (x : av) : x.cells.length = 3:=rfl
theorem av.cells_one (x : av) : ∀ u ∈ x.cells,u.oneCell' = true:=by intro u hu; simp [av.cells] at hu; rcases hu with rfl | rfl | rfl <;> rfl
theorem mI {w : World} {f : Nat} {A : Option Addr} {l : List av} (h : mg av.row w f A l 3) : jI w A l.length 3 (l.flatMap av.cells) ∧ ∀ x ∈ l,x.Wf:=flt.gI av.aD (by decide) (fun _ _ _ _ h=>av.opened h) h
theorem jf {w : World} {B : Nat} {e : TypeId} {v : Value} {l : List av} (h : w.ownsRow B e 3 v l.length (l.flatMap av.cells)) (hw : ∀ x ∈ l,x.Wf) : ∃ F,Own w B 2 v (.sl 3 l.length (l.flatMap av.row)) F ∧ F.Nodup ∧ ∀ x ∈ F,B ≤ x ∧ x < w.heap.size:=flt.yS av.au (fun _ h=>av.owned h) h hw
instance VX : Inhabited av:=⟨⟨⟨#[]⟩,⟨#[]⟩,0⟩⟩
end ty
end Go.Proofs.YtcfbkfmkjggcdaaGreatDoor
