/- spec.SortNeeds. -/
import Derived.Test.YtcfbkfmkjggcdaaGreatDoorGA12
import Derived.Test.YtcfbkfmkjggcdaaGreatDoorGA11
import Derived.Test.YtcfbkfmkjggcdaaGreatDoorGA13
import Derived.Test.YtcfbkfmkjggcdaaGreatDoorGA6
import Derived.Deep.RegionLaw
namespace Go.Proofs.YtcfbkfmkjggcdaaGreatDoor.need
open Go.ChangeShapes Go.WideShapes Go.ChangeAt Go.RowKit ty lab dedup
set_option linter.unusedVariables false
theorem Ck {w : World} {B f : Nat} : ∀ (p : Nat) {xs : List Value} {ds : List C} {F : List Nat},bq w B f xs ds F → ∃ F1 F2,F = F1 ++ F2 ∧ bq w B f (xs.take p) (ds.take p) F1 ∧ bq w B f (xs.drop p) (ds.drop p) F2
  | 0,xs,ds,F,h=>⟨[],F,rfl,by simpa using bq.nil,by simpa using h⟩
  | p + 1,xs,[],F,h=>by
    obtain ⟨rfl,rfl⟩:=h.nO;exact ⟨[],[],rfl,by simpa using bq.nil,by simpa using bq.nil⟩
  | p + 1,xs,d :: ds,F,h=>by
    obtain ⟨v,vs',G,F',rfl,rfl,h1,h2⟩:=h.bO;obtain ⟨F1,F2,rfl,h3,h4⟩:=Ck p h2;exact ⟨G ++ F1,F2,by simp,by simpa using bq.cons h1 h3,by simpa using h4⟩
theorem JE {w : World} {B f k : Nat} {xs us : List Value} {cells ds : List C} {F G : List Nat} (h : bq w B f xs cells F) (hn : F.Nodup) (hu : bq w B f us ds G) (xK : G.Nodup) (hd : ∀ x ∈ F,x ∉ G) :
    ∃ F',bq w B f (xs.take (k * 3) ++ us ++ xs.drop (k * 3)) (cells.take (k * 3) ++ ds ++ cells.drop (k * 3)) F' ∧ F'.Nodup ∧ ∀ x ∈ F',x ∈ F ∨ x ∈ G:=by
  obtain ⟨F1,F2,rfl,h1,h2⟩:=Ck (k * 3) h;obtain ⟨n1,n2,n3⟩:=List.nodup_append.1 hn;refine ⟨F1 ++ G ++ F2,(h1.append hu).append h2,?_,fun x hx=>?_⟩
  · refine List.nodup_append.2 ⟨List.nodup_append.2 ⟨n1,xK,fun a ha b hb e=>hd a (List.mem_append_left _ ha) (e ▸ hb)⟩,n2,fun a ha b hb e=>?_⟩;rcases List.mem_append.1 ha with ha | ha
    · exact n3 a ha b hb e
    · exact hd b (List.mem_append_right _ hb) (e ▸ ha)
  · rcases List.mem_append.1 hx with hx | hx
    · rcases List.mem_append.1 hx with hx | hx
      · exact .inl (List.mem_append_left _ hx)
      · exact .inr hx
    · exact .inl (List.mem_append_right _ hx)
theorem Cm (l : List Need) (k : Nat) : (l.flatMap Need.row).take (k * 3) = (l.take k).flatMap Need.row:=by
  have hl : ∀ l : List Need,(l.flatMap Need.row).length = l.length * 3:=fun l=>aM (f:=Need.row) (sz:=3) Need.au l;by_cases h : k ≤ l.length
  · have e : l.flatMap Need.row = (l.take k).flatMap Need.row ++ (l.drop k).flatMap Need.row:=(by rw [← List.flatMap_append,List.take_append_drop]);have e2 : k * 3 = ((l.take k).flatMap Need.row).length:=(by rw [hl,List.length_take]; omega);rw [e,e2,List.take_left]
  · rw [List.take_of_length_le (by rw [hl]; omega),List.take_of_length_le (by omega)]
theorem Cn (l : List Need) (k : Nat) : (l.flatMap Need.row).drop (k * 3) = (l.drop k).flatMap Need.row:=by
  have hl : ∀ l : List Need,(l.flatMap Need.row).length = l.length * 3:=fun l=>aM (f:=Need.row) (sz:=3) Need.au l;by_cases h : k ≤ l.length
  · have e : l.flatMap Need.row = (l.take k).flatMap Need.row ++ (l.drop k).flatMap Need.row:=(by rw [← List.flatMap_append,List.take_append_drop]);have e2 : k * 3 = ((l.take k).flatMap Need.row).length:=(by rw [hl,List.length_take]; omega);rw [e,e2,List.drop_left]
  · rw [List.drop_of_length_le (by rw [hl]; omega),List.drop_of_length_le (by omega)]; rfl
theorem Ns (l : List Need) : bH Need.wt (fH l) ≤ bH Need.wt l:=by
  refine Nat.le_trans (kY dA Need.wt (l.map kH)) ?_
  induction l with
  | nil=>simp [bH]
  | cons x l ih=>
    have h1 : (kH x).wt ≤ x.wt:=by
      have h1:=fI aJ x.values;have h2:=kY aJ Str.wt x.values;unfold Need.wt kH;simp only;omega
    simp only [bH,List.map_cons,List.sum_cons] at ih ⊢;omega
theorem xW {ops : Array Oper} {o : Oper} {a : Act} {X wd : World} {K : Act → World → Prop} {Q : Exit → Act → World → Prop} {E : Prop}
    (hg : o.guard = none) (hop : o.op = Op.call { callee:=Callee.builtin Builtin.append,args:=#[.tmp 68,.tmp 71],argTypes:=#[25,25] })
    (b : Nat) (hs : a.eval (.tmp 68) = .slice (some ⟨b,0,none⟩) 0 0) (hX : Below wd.heap.size wd X) (hown : X.ownsRow wd.heap.size 69 3 (.slice (some ⟨b,0,none⟩) 0 0) 0 [])
    (A : Option Addr) (k c : Nat) (news : List Value) (hx : a.eval (.tmp 71) = .slice A k c) (hr : jI wd A k 3 news) (h1 : ∀ u ∈ news,u.oneCell' = true) (hk : k ≤ 64)
    (hK : ∀ v' w',w'.ownsRow wd.heap.size 69 3 v' k news → Below wd.heap.size wd w' → X.heap.size ≤ w'.heap.size → (∀ q,q < X.heap.size → q ≠ b → w'.heap[q]? = X.heap[q]?) → K (a.put o.dst v') w') :
    if Region.wanted o (yielded ops a.tmps) = true then Oper.wp Tryz.prog o a X K Q else E:=by
  obtain ⟨i0,hi,hz0,hz1,hz2⟩:=info_parts TryzinfoNeed;refine dV hg (.tmp 68) (.tmp 71) 25 hop wd.heap.size 69 i0 _ 3 48 Tryz.underlying25 hi hz0 hz1 hz2 rfl (by decide) _ 0 [] hs hown A k c news hx (hr.below hX) h1 (by unfold maxLen; omega) (by omega) hX.size ?_;intro v' w' h1 h2 h3;rw [Nat.zero_add,List.nil_append] at h1;refine hK v' w' h1 (hX.grown h2 hX.size (fun q hq=>(hown.lt q hq).1)) h2.size (fun q hq hb=>h2.block q hq (fun e=>hb (by simp [Value.ownBlock] at e; omega)))
theorem vO {ops : Array Oper} {o : Oper} {a : Act} {Y wd : World} {K : Act → World → Prop} {Q : Exit → Act → World → Prop} {E : Prop}
    (hg : o.guard = none) (hop : o.op = Op.call { callee:=Callee.builtin Builtin.append,args:=#[.tmp 72,.tmp 74],argTypes:=#[25,25] })
    (v : Value) (k : Nat) (news us : List Value) (hs : a.eval (.tmp 72) = v) (hY : Below wd.heap.size wd Y) (hown : Y.ownsRow wd.heap.size 69 3 v k news)
    (A : Option Addr) (hx : a.eval (.tmp 74) = .slice A 1 1) (hr : jI Y A 1 3 us) (h1 : ∀ u ∈ us,u.oneCell' = true) (hk : k ≤ 64)
    (hK : ∀ v' w',w'.ownsRow wd.heap.size 69 3 v' (k + 1) (news ++ us) → Below wd.heap.size wd w' → K (a.put o.dst v') w') :
    if Region.wanted o (yielded ops a.tmps) = true then Oper.wp Tryz.prog o a Y K Q else E:=by
  obtain ⟨i0,hi,hz0,hz1,hz2⟩:=info_parts TryzinfoNeed;refine dV hg (.tmp 72) (.tmp 74) 25 hop wd.heap.size 69 i0 _ 3 48 Tryz.underlying25 hi hz0 hz1 hz2 rfl (by decide) v k _ hs hown A 1 1 us hx hr h1 (by unfold maxLen; omega) (by omega) hY.size ?_;intro v' w' h1 h2 h3;exact hK v' w' h1 (hY.grown h2 hY.size (fun q hq=>(hown.lt q hq).1))
theorem TH (w : World) : ((w.alloc (.cells #[] 69)).drew).ownsRow w.heap.size 69 3 (.slice (some ⟨w.heap.size,0,none⟩) 0 0) 0 []:=
  World.ownsRow_lit w #[] 0 (Nat.le_refl _) (by simp [maxLen]) rfl
theorem TI (w : World) (p : Obj) : (((w.alloc (.cells #[] 69)).alloc p).drew).ownsRow w.heap.size 69 3 (.slice (some ⟨w.heap.size,0,none⟩) 0 0) 0 []:=
  own_below' (World.ownsRow_lit w #[] 0 (Nat.le_refl _) (by simp [maxLen]) rfl) ((Below.refl _ _).alloc (Nat.le_refl _) p).drew
theorem TJ (w : World) (p : Obj) : (((w.alloc p).alloc (.cells #[] 69)).drew).ownsRow w.heap.size 69 3 (.slice (some ⟨w.heap.size + 1,0,none⟩) 0 0) 0 []:=by
  have e : w.heap.size + 1 = (w.alloc p).heap.size:=(by simp);rw [e];exact bR (World.ownsRow_lit (w.alloc p) #[] 0 (Nat.le_refl _) (by simp [maxLen]) rfl) (by simp)
theorem TK {w w' : World} {o : Obj} {x y z : Value} (h : ∀ q,q < (((w.alloc o).alloc (.cells #[x,y,z] 69)).drew).heap.size → q ≠ w.heap.size → w'.heap[q]? = (((w.alloc o).alloc (.cells #[x,y,z] 69)).drew).heap[q]?) : jI w' (some ⟨w.heap.size + 1,0,none⟩) 1 3 [x,y,z]:=by
  refine o9 (e:=69) rfl ((h _ (by show _ < ((w.alloc o).alloc _).heap.size; simp) (by omega)).trans ?_);have:=heap_alloc_new (w.alloc o) (.cells #[x,y,z] 69);have e : (w.alloc o).heap.size = w.heap.size + 1:=(by simp);rw [e] at this;exact this
theorem TL {w w' : World} {o : Obj} {x y z : Value} (h : ∀ q,q < (((w.alloc (.cells #[x,y,z] 69)).alloc o).drew).heap.size → q ≠ w.heap.size + 1 → w'.heap[q]? = (((w.alloc (.cells #[x,y,z] 69)).alloc o).drew).heap[q]?) : jI w' (some ⟨w.heap.size,0,none⟩) 1 3 [x,y,z]:=by
  refine o9 (e:=69) rfl ((h _ (by show _ < ((w.alloc _).alloc o).heap.size; simp <;> omega) (by omega)).trans ?_);have e : w.heap.size < (w.alloc (.cells #[x,y,z] 69)).heap.size:=(by simp);exact (Below.heap_alloc (w.alloc (.cells #[x,y,z] 69)) o w.heap.size e).trans (heap_alloc_new w _)
theorem FK (w : World) (x y z : Value) : jI (w.alloc (.cells #[x,y,z] 69)) (some ⟨w.heap.size,0,none⟩) 1 3 [x,y,z]:=o9 rfl (heap_alloc_new w _)
theorem KI {l : List Need} {j : Nat} (h : lC l j) (hj : j < l.length) (h2 : l[j].values.length ≤ 40) : lC l (j + 1):=fun i hi hij=>by
  by_cases e : i = j
  · subst e; exact h2
  · exact h i hi (by omega)
theorem Nt {l : List Need} {j : Nat} (hj : j < l.length) : fH (l.take (j + 1)) = iJ dA (kH l[j]) (fH (l.take j)):=by
  rw [List.take_succ_eq_append_getElem hj,KE]
theorem Qw {w : World} {B f g d : Nat} {S : List Need} (h : dx w B f 69 3 (.slice (some ⟨g,0,none⟩) S.length d) S.length (S.flatMap Need.row)) : ∃ f',mg Need.row w f' (some ⟨g,0,none⟩) S 3:=by
  obtain ⟨F,ho,_,_⟩:=h.own;obtain ⟨A,c,e,_,_,f',_,hk⟩:=bD Need.au ho.lies;injection e with e1 _ e3;subst e1;exact ⟨f',hk⟩
set_option maxRecDepth 1000000 in
set_option maxHeartbeats 16000000 in
theorem zL (l : List Need) (f : Nat) (v : Value) (w : World) (h : bf w f v (.sl 3 l.length (l.flatMap Need.row))) (hw : l.length + bH Need.wt l ≤ 1048576) :
    Calls Tryz.prog 43 #[v] w fun e w'=>dB w w' e 3 Need.row (iF l):=by
  have wM:=Lib.hid (fun w1 (hb : Below w.heap.size w w1)=>mX l f v w1 (h.below hb) (by omega) (fun i hi=>by have h1:=ko Need.wt hi; have h2:=sU l[i]; omega));have Tw:=Lib.hid (show (fH l).length + bH Need.wt (fH l) ≤ 1048576 by have h1:=Ns l; have h2:=nX l; omega);obtain ⟨A,c,rfl,hc1,hc2,f',rfl,hk⟩:=bD Need.au h;unfold maxLen at hc2;obtain ⟨i0,hi,hz0,hz1,hz2⟩:=info_parts TryzinfoNeed;have Hk:=Lib.hid hk;clear h hk hw;by_cases PL : 40 < l.length
  · rw [kI (fun h=>by have:=h.1; omega)];have Yo:=Lib.hid (wM.out w (Below.refl _ _));clear wM Tw Hk;go_enter Tryz.func43,Tryz.ntmps43;go_wp2_with fail;refine Yo.out.mono ?_;rintro e w2 ⟨x1,rfl,hrow,hb⟩;obtain ⟨F,ho,hnd,_⟩:=hrow.own;have HR:=Lib.hid (show dB w w2 (.returned (.tuple #[x1,.bool false])) 3 Need.row (l,false) from ⟨_,2,F,rfl,ho,hnd,hb⟩);clear hrow hb ho hnd;go_wp2_with fail
    go_ret2
    exact HR.out
  have xq:=Lib.hid (fun (hP : mF (fH l)) (hF : lC l l.length)=>j5 (l:=l) ⟨by omega,hF,hP⟩);have Nu:=Lib.hid (fun (hP : ¬ mF (fH l))=>kI (l:=l) (fun h=>hP h.2.2));have Nv:=Lib.hid (fun (hF : ¬ lC l l.length)=>kI (l:=l) (fun h=>hF h.2.1));obtain ⟨w1,hw1⟩ : ∃ w1,w1 = w.alloc (.cells #[] 69):=⟨_,rfl⟩;have hb1 : Below w.heap.size w w1:=(by rw [hw1]; exact (Below.refl _ _).alloc (Nat.le_refl _) _);have hown1 : w1.ownsRow w.heap.size 69 3 (.slice (some ⟨w.heap.size,0,none⟩) 0 0) 0 []:=(by rw [hw1]; exact World.ownsRow_lit w #[] 0 (Nat.le_refl _) (by simp [maxLen]) rfl);have eT:=Lib.hid hw1;have jV:=Lib.hid (dx.GV (f:=2) hown1);have Hb1:=Lib.hid hb1;clear hw1 hown1 hb1;go_enter Tryz.func43,Tryz.ntmps43;go_wp2_with fail;rw [← eT.out]
  go_loopw [4,5] (fun vo i wr=>∃ (j : Nat) (S : List Need) (g d : Nat),j ≤ l.length ∧ i = .int .i64 j ∧ Hid (lC l j) ∧ S = fH (l.take j) ∧ vo = .slice (some ⟨g,0,none⟩) S.length d ∧ dx wr w.heap.size 2 69 3 (.slice (some ⟨g,0,none⟩) S.length d) S.length (S.flatMap Need.row) ∧ Below w.heap.size w wr) (fun _ i _=>l.length - (intOf i).toNat)
  case atStart=>exact ⟨0,[],w.heap.size,0,Nat.zero_le _,rfl,(fun i hi h=>by omega),rfl,rfl,jV.out,Hb1.out⟩
  case round=>
    clear jV eT Hb1;obtain ⟨wo,rfl⟩ : ∃ wo,wo = wr:=⟨_,rfl⟩;obtain ⟨j,S,g0,d0,hj,rfl,FL,hS,rfl,hrow,hbel⟩:=hrel;have PI : S.length ≤ 40:=(by have:=nX (l.take j); rw [← hS,List.length_take] at this; omega);by_cases hlt : j < l.length
    · obtain ⟨g,o,rfl,hg,us0,kN,hc,hls⟩:=(Hk.out.below hbel).get hlt;obtain ⟨A2,c2,rfl,hwf,k2,m2,l2⟩:=Need.opened hls;have q0 : wo.cell? ⟨g,o + j * 3,none⟩ = some (.string l[j].key):=hc 0 _ rfl;have q1 : wo.cell? ⟨g,o + j * 3 + 1,none⟩ = some (.int .i64 l[j].op):=hc 1 _ rfl;have q2 : wo.cell? ⟨g,o + j * 3 + 2,none⟩ = some (.slice A2 l[j].values.length c2):=hc 2 _ rfl;by_cases Qx : 40 < l[j].values.length
      · have HR0:=Lib.hid (Nv.out (fun hF=>by have:=hF j hlt hlt; omega));have Yo:=Lib.hid (wM.out wo hbel);have bg:=Lib.hid hbel;clear hrow hbel kN hc hls hwf l2 hg wM FL hS xq Nu Nv;generalize l[j] = x at q0 q1 q2 Qx;go_wp2_with fail;refine Yo.out.mono ?_;rintro e w2 ⟨x1,rfl,hrow,hb⟩;obtain ⟨F,ho,hnd,_⟩:=(hrow.lower bg.out.size).own;have HR:=Lib.hid (show dB w w2 (.returned (.tuple #[x1,.bool false])) 3 Need.row (l,false) from ⟨_,2,F,rfl,ho,hnd,ah bg.out hb bg.out.size⟩);clear hrow hb ho hnd;go_wp2_with fail
        go_ret2
        rw [HR0.out];exact HR.out
      have KJ:=Lib.hid (KI FL.out hlt (by omega));have JF:=Lib.hid (Nt hlt);rw [← hS] at JF;have eU:=Lib.hid hwf;have HL2:=Lib.hid (fun w' (hb : Below wo.heap.size wo w')=>Cj l[j].values _ _ w' (l2.below hb) (by omega));obtain ⟨x,hx⟩ : ∃ x,x = l[j]:=⟨_,rfl⟩;have Hx:=Lib.hid hx;rw [← hx] at k2 Qx q0 q1 q2 JF eU HL2;clear hls kN hc hg hwf l2 hx;obtain ⟨xk,xo,xv⟩:=x;simp only at k2 Qx q0 q1 q2 HL2;obtain ⟨w2,hw2⟩ : ∃ w2,w2 = wo.alloc (.cells #[.string xk,.int .i64 xo,.slice A2 xv.length c2] 69):=⟨_,rfl⟩;have hb2 : Below wo.heap.size wo w2:=(by rw [hw2]; exact (Below.refl _ _).alloc (Nat.le_refl _) _);have h2 : w2.heap[wo.heap.size]? = some (.cells #[.string xk,.int .i64 xo,.slice A2 xv.length c2] 69 (0,0)):=(by rw [hw2]; exact heap_alloc_new wo _);have HV:=Lib.hid (HL2.out w2 hb2);have H2:=Lib.hid h2;have Hb2:=Lib.hid hb2;have Yp:=Lib.hid hw2;have pK:=Lib.hid hrow;have bg:=Lib.hid hbel;have TM:=(hb2.cell (p:=⟨g,o + j * 3,none⟩) (World.block_lt_of_cell? _ _ q0)).trans q0;have TN:=(hb2.cell (p:=⟨g,o + j * 3 + 1,none⟩) (World.block_lt_of_cell? _ _ q1)).trans q1;have q22:=(hb2.cell (p:=⟨g,o + j * 3 + 2,none⟩) (World.block_lt_of_cell? _ _ q2)).trans q2;rw [hw2] at TM TN q22;have JC : (#[Value.string xk,.int .i64 xo,.slice A2 xv.length c2]).all (·.oneCell') = true:=(by simp [Value.oneCell']);clear hb2 h2 hw2 hrow hbel HL2 hS;go_wp2_with (first | (refine wpList_store_row rfl 69 _ _ rfl wo.heap.size #[.string xk,.int .i64 xo,.slice A2 xv.length c2] rfl rfl 69 _ (heap_alloc_new wo _) dP rfl JC ?_; rw [World.setRow_alloc_new]) | fail);rw [← Yp.out];refine HV.out.mono ?_;rintro e w4 ⟨v4,rfl,hrow4,hb4⟩;obtain ⟨B4,d4,rfl⟩:=hrow4.eD;have hlt2:=aX H2.out;have h4:=eX hb4 hlt2 H2.out;have p4 : w4.cell? ⟨wo.heap.size,2,none⟩ = some (.slice A2 xv.length c2):=(by rw [cell_of_row _ _ 2 _ _ _ h4]; rfl);have f4:=frozen_of_row w4 _ 2 _ _ h4;obtain ⟨G,o4,n4,g4⟩:=hrow4.own;have jK:=Lib.hid (show fH (l.take (j + 1)) = iJ dA ⟨xk,xo,aU aJ xv⟩ S from JF.out);generalize aU aJ xv = yv at o4 jK hrow4 ⊢;obtain ⟨w5,hz⟩ : ∃ w5,w4.setCell ⟨wo.heap.size,2,none⟩ (.slice B4 yv.length d4) = w5:=⟨_,rfl⟩;have h5 : w5.heap[wo.heap.size]? = some (.cells #[.string xk,.int .i64 xo,.slice B4 yv.length d4] 69 (0,0)):=(by rw [← hz]; exact heap_setCell_same _ _ _ _ _ _ h4);have Bc : Below wo.heap.size wo w5:=(by rw [← hz]; exact (Hb2.out.trans (hb4.mono Hb2.out.size)).setCell (Nat.le_refl _) _);have o5 : Own w5 w2.heap.size 2 (.slice B4 yv.length d4) (.sl 1 yv.length (yv.flatMap Str.row)) G:=(by rw [← hz]; exact Own.jU o4 hlt2);have hge : w.heap.size ≤ wo.heap.size:=bg.out.size;obtain ⟨G2,tZ,xK,hsub⟩:=Need.owned (x:=⟨xk,xo,yv⟩) (f:=1) (show Need.Wf ⟨xk,xo,yv⟩ from eU.out) (o5.lower (B':=w.heap.size) (by omega)) n4;obtain ⟨f5,hk5⟩:=Qw (pK.out.below Bc);obtain ⟨xs,F,hr0,mH,ho0,Nw,_⟩:=pK.out;have jy:=own_below' hr0 Bc;have uP:=ho0.below Bc
      have HFG:=Lib.hid (show ∀ x ∈ F,x ∉ G2 from fun x hx hxG=>by
        have h1:=(g4 x (hsub x hxG)).1;have h2:=(ho0.range x hx).2;omega)
      have Hk5:=Lib.hid hk5;have XK:=Lib.hid (show bq w5 w.heap.size 2 [.string xk,.int .i64 xo,.slice B4 yv.length d4] (Need.row ⟨xk,xo,yv⟩) G2 from tZ);have HnG:=Lib.hid xK;have abt:=Lib.hid (pK.out.below Bc);have Hr5:=Lib.hid jy;have Qh:=Lib.hid mH;have Ho5:=Lib.hid uP;have Hn5:=Lib.hid Nw;have H5:=Lib.hid h5;have FM:=Lib.hid (ah bg.out Bc bg.out.size)
      have hd0 : S.length ≤ d0 ∧ d0 ≤ 9223372036854775807:=by
        obtain ⟨c',e,h1,h2,_⟩:=iB jy rfl;injection e with _ _ e;subst e;exact ⟨h1,h2⟩
      obtain ⟨Qf,Qg⟩:=hd0;clear hrow4 hb4 h4 o4 n4 g4 Bc o5 tZ xK hsub hk5 jy mH uP Nw h5 hr0 ho0 HV H2 Hb2 Yp pK bg JF eU q0 q1 q2 TM TN q22 hlt2 JC Tw Nu Nv xq wM;obtain ⟨y,hy⟩ : ∃ y : Need,y = ⟨xk,xo,yv⟩:=⟨_,rfl⟩;rw [← hy] at jK XK;clear hy;go_wp2_with fail;clear p4 f4 hz k2 m2 Qx
      go_loopw [7] (fun kv wi=>∃ k : Nat,k ≤ S.length ∧ kv = .int .i64 k ∧ Hid (∀ q (h : q < k) (h2 : q < S.length),dA S[q] y = true) ∧ Below w5.heap.size w5 wi) (fun kv _=>S.length - (intOf kv).toNat)
      case atStart=>exact ⟨0,Nat.zero_le _,rfl,fun q h=>by omega,Below.refl _ _⟩
      case round=>
        obtain ⟨wi,rfl⟩ : ∃ wi,wi = wr:=⟨_,rfl⟩;obtain ⟨k,hkj,rfl,hall,hbi⟩:=hrel;have hi5:=eX hbi (aX H5.out) H5.out;have hgi:=aX hi5;have n0 : ∀ p : ak wi,p.v.cell? ⟨wo.heap.size,0,none⟩ = some (.string xk):=fun p=>p.cell hgi (by rw [cell_of_row _ _ 0 _ _ _ hi5]; rfl);have n1 : ∀ p : ak wi,p.v.cell? ⟨wo.heap.size,1,none⟩ = some (.int .i64 xo):=fun p=>p.cell hgi (by rw [cell_of_row _ _ 1 _ _ _ hi5]; rfl);have n2 : ∀ p : ak wi,p.v.cell? ⟨wo.heap.size,2,none⟩ = some (.slice B4 yv.length d4):=fun p=>p.cell hgi (by rw [cell_of_row _ _ 2 _ _ _ hi5]; rfl);have hln:=XK.out.lies.kept hbi.block;have PO:=Lib.hid hbi;have hk0 : (0 : Int) ≤ (k : Int):=(by omega);by_cases hkl : k < S.length
        · obtain ⟨g',o',A3,c3,hA,r0,r1,r2,Wt⟩:=rE Hk5.out hbi hkl;injection hA with hA;injection hA with e1 e2;subst e1 e2;simp only [Nat.zero_add] at r0 r1 r2;have HL:=Lib.hid (fun p : ak wi=>pq S[k] y f5 2 _ _ p.v (Wt p) (hln.kept p.h.block));have HL2:=Lib.hid (fun p : ak wi=>pq y S[k] 2 f5 _ _ p.v (hln.kept p.h.block) (Wt p));have hkn : (k : Int) < (S.length : Int):=(by omega);clear hi5 hgi hln hbi Wt;cases hb : dA S[k] y with
          | true=>
            have abu : Hid (∀ q (h : q < k + 1) (h2 : q < S.length),dA S[q] y = true):=fun q h h2=>by
              by_cases e : q = k
              · subst e; exact hb
              · exact hall.out q (by omega) h2
            rw [hb] at HL;clear hall hb HL2;generalize S[k] = z at r0 r1 r2 HL;go_wp2_with fail;refine wp_region_quiet_below (by kernel_rfl) (by kernel_rfl) ?_
            repeat (refine @wpQuiet_step _ _ _ _ _ _ _ ?_; intro K hK; go_simp; first | (refine hK _ ?_; clear hK K) | (apply Exists.intro; refine ⟨fun _=>?_,hK _ ?_⟩; (go_at_call 112; exact Calls.aF (HL.out _)); clear hK K))
            refine wpQuiet_nil ?_;intro _ hw';obtain ⟨p,rfl⟩:=hw';go_wp2_with fail
            go_roundw
            case rel=>exact ⟨k + 1,by omega,by go_num,abu.out,ah PO.out p.h PO.out.size⟩
            case measure=>simp [intOf]; omega
          | false=>
            rw [hb] at HL;cases hb2 : dA y S[k] with
            | false=>
              rw [hb2] at HL2;have kC:=Lib.hid (oN hkl (fun q h=>hall.out q h (by omega)) hb hb2);clear hall hb hb2;generalize S[k] = z at r0 r1 r2 HL HL2;go_wp2_with fail;refine wp_region_quiet_below (by kernel_rfl) (by kernel_rfl) ?_
              repeat (refine @wpQuiet_step _ _ _ _ _ _ _ ?_; intro K hK; go_simp; first | (refine hK _ ?_; clear hK K) | (apply Exists.intro; refine ⟨fun _=>?_,hK _ ?_⟩; (go_at_call 112; exact Calls.aF (HL.out _)); clear hK K))
              refine wpQuiet_nil ?_;intro _ hw';obtain ⟨p0,rfl⟩:=hw';have Qy:=Lib.hid (ah PO.out p0.h PO.out.size);have N0 : ∀ p' : ak p0.v,p'.v.cell? ⟨wo.heap.size,0,none⟩ = some (.string xk):=fun p'=>n0 ⟨p'.v,p0.h.trans (p'.h.mono p0.h.size)⟩;have N1 : ∀ p' : ak p0.v,p'.v.cell? ⟨wo.heap.size,1,none⟩ = some (.int .i64 xo):=fun p'=>n1 ⟨p'.v,p0.h.trans (p'.h.mono p0.h.size)⟩;have N2 : ∀ p' : ak p0.v,p'.v.cell? ⟨wo.heap.size,2,none⟩ = some (.slice B4 yv.length d4):=fun p'=>n2 ⟨p'.v,p0.h.trans (p'.h.mono p0.h.size)⟩;have R0 : ∀ p' : ak p0.v,p'.v.cell? ⟨g0,k * 3,none⟩ = some (.string z.key):=fun p'=>r0 ⟨p'.v,p0.h.trans (p'.h.mono p0.h.size)⟩;have R1 : ∀ p' : ak p0.v,p'.v.cell? ⟨g0,k * 3 + 1,none⟩ = some (.int .i64 z.op):=fun p'=>r1 ⟨p'.v,p0.h.trans (p'.h.mono p0.h.size)⟩;have R2 : ∀ p' : ak p0.v,p'.v.cell? ⟨g0,k * 3 + 2,none⟩ = some (.slice A3 z.values.length c3):=fun p'=>r2 ⟨p'.v,p0.h.trans (p'.h.mono p0.h.size)⟩;have HM:=Lib.hid (fun p' : ak p0.v=>show Calls Tryz.prog 112 #[.agg #[.string xk,.int .i64 xo,.slice B4 yv.length d4],.agg #[.string z.key,.int .i64 z.op,.slice A3 z.values.length c3]] p'.v fun e w'=>e = .returned (.bool false) ∧ Below p'.v.heap.size p'.v w' from HL2.out ⟨p'.v,p0.h.trans (p'.h.mono p0.h.size)⟩);clear n0 n1 n2 r0 r1 r2 HL HL2 PO;generalize p0.v = wq at Qy N0 N1 N2 R0 R1 R2 HM ⊢;clear p0;go_wp2_with fail;refine wp_region_quiet_below (by kernel_rfl) (by kernel_rfl) ?_
              repeat (refine @wpQuiet_step _ _ _ _ _ _ _ ?_; intro K hK; go_simp; first | (refine hK _ ?_; clear hK K) | (apply Exists.intro; refine ⟨fun _=>?_,hK _ ?_⟩; (go_at_call 112; exact Calls.aF (HM.out _)); clear hK K))
              refine wpQuiet_nil ?_;intro _ hw';obtain ⟨p,rfl⟩:=hw';have Yq:=Lib.hid (show dx p.v w.heap.size 2 69 3 (.slice (some ⟨g0,0,none⟩) S.length d0) S.length (S.flatMap Need.row) from abt.out.below (ah Qy.out p.h Qy.out.size));have yC:=Lib.hid (ah FM.out (ah Qy.out p.h Qy.out.size) FM.out.size);have abv:=Lib.hid (show S = fH (l.take (j + 1)) by rw [jK.out,kC.out]);go_wp2_with fail
              go_roundw
              case rel=>exact ⟨j + 1,S,g0,d0,by omega,by go_num,KJ.out,abv.out,rfl,Yq.out,yC.out⟩
              case measure=>simp [intOf]; omega
            | true=>
              rw [hb2] at HL2;have kC:=Lib.hid (kr (Nat.le_of_lt hkl) (fun q h=>hall.out q h (by omega)) (fun h=>⟨hb,hb2⟩));clear hall hb hb2;generalize S[k] = z at r0 r1 r2 HL HL2;go_wp2_with fail;refine wp_region_quiet_below (by kernel_rfl) (by kernel_rfl) ?_
              repeat (refine @wpQuiet_step _ _ _ _ _ _ _ ?_; intro K hK; go_simp; first | (refine hK _ ?_; clear hK K) | (apply Exists.intro; refine ⟨fun _=>?_,hK _ ?_⟩; (go_at_call 112; exact Calls.aF (HL.out _)); clear hK K))
              refine wpQuiet_nil ?_;intro _ hw';obtain ⟨p0,rfl⟩:=hw';have Qy:=Lib.hid (ah PO.out p0.h PO.out.size);have N0 : ∀ p' : ak p0.v,p'.v.cell? ⟨wo.heap.size,0,none⟩ = some (.string xk):=fun p'=>n0 ⟨p'.v,p0.h.trans (p'.h.mono p0.h.size)⟩;have N1 : ∀ p' : ak p0.v,p'.v.cell? ⟨wo.heap.size,1,none⟩ = some (.int .i64 xo):=fun p'=>n1 ⟨p'.v,p0.h.trans (p'.h.mono p0.h.size)⟩;have N2 : ∀ p' : ak p0.v,p'.v.cell? ⟨wo.heap.size,2,none⟩ = some (.slice B4 yv.length d4):=fun p'=>n2 ⟨p'.v,p0.h.trans (p'.h.mono p0.h.size)⟩;have R0 : ∀ p' : ak p0.v,p'.v.cell? ⟨g0,k * 3,none⟩ = some (.string z.key):=fun p'=>r0 ⟨p'.v,p0.h.trans (p'.h.mono p0.h.size)⟩;have R1 : ∀ p' : ak p0.v,p'.v.cell? ⟨g0,k * 3 + 1,none⟩ = some (.int .i64 z.op):=fun p'=>r1 ⟨p'.v,p0.h.trans (p'.h.mono p0.h.size)⟩;have R2 : ∀ p' : ak p0.v,p'.v.cell? ⟨g0,k * 3 + 2,none⟩ = some (.slice A3 z.values.length c3):=fun p'=>r2 ⟨p'.v,p0.h.trans (p'.h.mono p0.h.size)⟩;have HM:=Lib.hid (fun p' : ak p0.v=>show Calls Tryz.prog 112 #[.agg #[.string xk,.int .i64 xo,.slice B4 yv.length d4],.agg #[.string z.key,.int .i64 z.op,.slice A3 z.values.length c3]] p'.v fun e w'=>e = .returned (.bool true) ∧ Below p'.v.heap.size p'.v w' from HL2.out ⟨p'.v,p0.h.trans (p'.h.mono p0.h.size)⟩);clear n0 n1 n2 r0 r1 r2 HL HL2 PO;generalize p0.v = wq at Qy N0 N1 N2 R0 R1 R2 HM ⊢;clear p0;go_wp2_with fail;refine wp_region_quiet_below (by kernel_rfl) (by kernel_rfl) ?_
              repeat (refine @wpQuiet_step _ _ _ _ _ _ _ ?_; intro K hK; go_simp; first | (refine hK _ ?_; clear hK K) | (apply Exists.intro; refine ⟨fun _=>?_,hK _ ?_⟩; (go_at_call 112; exact Calls.aF (HM.out _)); clear hK K))
              refine wpQuiet_nil ?_;intro _ hw';obtain ⟨p,rfl⟩:=hw';obtain ⟨wd,hwd⟩ : ∃ wd,wd = p.v:=⟨_,rfl⟩;have hbd : Below w5.heap.size w5 wd:=(by rw [hwd]; exact ah Qy.out p.h Qy.out.size);rw [← hwd];clear hwd N0 N1 N2 R0 R1 R2 HM;have hd5:=eX hbd (aX H5.out) H5.out;have e0 : wd.cell? ⟨wo.heap.size,0,none⟩ = some (.string xk):=(by rw [cell_of_row _ _ 0 _ _ _ hd5]; rfl);have e1 : wd.cell? ⟨wo.heap.size,1,none⟩ = some (.int .i64 xo):=(by rw [cell_of_row _ _ 1 _ _ _ hd5]; rfl);have e2 : wd.cell? ⟨wo.heap.size,2,none⟩ = some (.slice B4 yv.length d4):=(by rw [cell_of_row _ _ 2 _ _ _ hd5]; rfl);have hgd:=aX hd5;have eu:=own_below' Hr5.out hbd;have hxl : xs.length = S.length * 3:=eu.1;have iw:=fT eu 0 0 k (by omega) (by omega);rw [Nat.zero_mul,List.drop_zero] at iw;have gZ:=fT eu k (k * 3) (S.length - k) rfl (by omega);rw [List.take_of_length_le (by rw [List.length_drop,hxl]; omega)] at gZ;have fK:=Ho5.out.ones;have Ik:=Lib.hid (show ∀ u ∈ xs.take (k * 3),u.oneCell' = true from fun u hu=>fK u (List.mem_of_mem_take hu));have gJ:=Lib.hid (show ∀ u ∈ [Value.string xk,.int .i64 xo,.slice B4 yv.length d4],u.oneCell' = true from by intro u hu; simp at hu; rcases hu with rfl | rfl | rfl <;> rfl);have Ny:=Lib.hid (show ∀ u ∈ xs.drop (k * 3),u.oneCell' = true from fun u hu=>fK u (List.mem_of_mem_drop hu));have iV:=Lib.hid iw;have nK:=Lib.hid gZ;have kP:=Lib.hid hbd;have Hxl:=Lib.hid hxl;have fJ : k ≤ 64:=(by omega);have hkd : k ≤ d0:=(by omega);have M4 : k ≤ S.length:=(by omega);clear hbd hd5 eu iw gZ fK hxl;go_wp2_with fail
              go_region_law (first
                | (refine xW (wd:=wd) rfl rfl _ rfl ?_ ?_ (some ⟨g0,0,none⟩) k d0 (xs.take (k * 3)) rfl iV.out Ik.out fJ ?_
                   · first | exact Jw _ _ | exact Jy _ _ _
                   · first | exact TH _ | exact TI _ _ | exact TJ _ _
                   intro v5 w5b hown5 hb5 hs5 bN;have MK:=(World.cell?_of_block (hb5.block wo.heap.size hgd)).trans e0;have e15:=(World.cell?_of_block (hb5.block wo.heap.size hgd)).trans e1;have e25:=(World.cell?_of_block (hb5.block wo.heap.size hgd)).trans e2
                   first | have jy:=TK bN | have jy:=TL bN | skip)
                | (refine vO (wd:=wd) rfl rfl _ k (xs.take (k * 3)) [.string xk,.int .i64 xo,.slice B4 yv.length d4] rfl ?_ ?_ (some ⟨_,0,none⟩) rfl ?_ gJ.out fJ ?_
                   · first | exact hb5 | exact hb5.alloc hb5.size _
                   · first | exact hown5 | exact own_below' hown5 ((Below.refl _ _).alloc (Nat.le_refl _) _)
                   · first | exact jy | exact FK _ _ _ _
                   intro v6 w6 hown6 hb6))
              all_goals
                obtain ⟨g6,c6,rfl⟩:=lV hown6 (by omega);have KF:=Lib.hid (nK.out.below hb6);have gD:=Lib.hid hown6;have zl:=Lib.hid hb6;clear hown6 hb6 hown5 hb5 hs5 bN MK e15 e25 e0 e1 e2;go_wp2_with (first | (refine aB rfl (.tmp 76) (.tmp 79) 25 rfl wd.heap.size 69 i0 _ 3 48 Tryz.underlying25 hi hz0 hz1 hz2 rfl (by decide) _ (k + 1) _ rfl gD.out _ (S.length - k) _ (xs.drop (k * 3)) rfl (KF.out) (Ny.out) (by unfold maxLen; omega) (by omega) zl.out.size ?_) | fail)
                all_goals
                  intro v7 w7 h7 gM ig;have nP : Below wd.heap.size wd w7:=zl.out.grown gM zl.out.size (fun b hb=>(gD.out.lt b hb).1);have Wu:=Ho5.out.below kP.out;have hO2:=XK.out.below kP.out;obtain ⟨F',hO,hN,hsub⟩:=JE (k:=k) (Wu.below nP) Hn5.out (hO2.below nP) HnG.out HFG.out
                  have en : k + 1 + (S.length - k) = (fH (l.take (j + 1))).length:=by
                    rw [jK.out,kC.out,List.length_append,List.length_take,List.length_cons,List.length_drop];omega
                  have er : (S.flatMap Need.row).take (k * 3) ++ y.row ++ (S.flatMap Need.row).drop (k * 3) = (fH (l.take (j + 1))).flatMap Need.row:=by
                    rw [Cm,Cn,jK.out,kC.out,List.flatMap_append,List.flatMap_cons,List.append_assoc]
                  rw [er] at hO;simp only [List.append_assoc,List.cons_append,List.nil_append] at hO;rw [en] at h7;obtain ⟨g7,c7,rfl⟩:=lV h7 (by rw [← en]; omega)
                  have XL:=Lib.hid (show dx w7 w.heap.size 2 69 3 (.slice (some ⟨g7,0,none⟩) (fH (l.take (j + 1))).length c7) (fH (l.take (j + 1))).length ((fH (l.take (j + 1))).flatMap Need.row) from ⟨_,F',bR h7 (by have h1:=FM.out.size; have h2:=kP.out.size; omega),aM (f:=Need.row) (sz:=3) Need.au _,hO,hN,fun x hx e=>by
                    have h1:=(h7.lt x e).1;rcases hsub x hx with h2 | h2
                    · have:=(Wu.range x h2).2; omega
                    · have:=(hO2.range x h2).2; omega⟩)
                  have yC:=Lib.hid (ah FM.out (ah kP.out nP kP.out.size) FM.out.size);clear h7 gM ig nP Wu hO2 hO hN hsub en er;go_wp2_with fail
                  go_roundw
                  case rel=>exact ⟨j + 1,_,g7,c7,by omega,by go_num,KJ.out,rfl,rfl,XL.out,yC.out⟩
                  case measure=>simp [intOf]; omega
        · obtain rfl : k = S.length:=(by omega);have kC:=Lib.hid (kr (lt:=dA) (x:=y) (S:=S) (k:=S.length) (Nat.le_refl _) (fun q h=>hall.out q h h) (fun h=>absurd h (Nat.lt_irrefl _)));clear hall hbi hi5 hgi hln n0 n1 n2;go_wp2_with fail
          go_quiet (fail)
          obtain ⟨sK,kQ⟩ : ∃ sK,sK = wi.drewN nq:=⟨_,rfl⟩;have vH:=Lib.hid (show Below w5.heap.size w5 sK by rw [kQ]; exact below_drewN PO.out _);rw [← kQ];clear kQ PO;go_wp2_with fail
          go_quiet (fail)
          obtain ⟨wd,hwd⟩ : ∃ wd,wd = sK.drewN nq:=⟨_,rfl⟩;have hbd : Below w5.heap.size w5 wd:=(by rw [hwd]; exact below_drewN vH.out _);rw [← hwd];clear hwd vH;have hd5:=eX hbd (aX H5.out) H5.out;have e0 : wd.cell? ⟨wo.heap.size,0,none⟩ = some (.string xk):=(by rw [cell_of_row _ _ 0 _ _ _ hd5]; rfl);have e1 : wd.cell? ⟨wo.heap.size,1,none⟩ = some (.int .i64 xo):=(by rw [cell_of_row _ _ 1 _ _ _ hd5]; rfl);have e2 : wd.cell? ⟨wo.heap.size,2,none⟩ = some (.slice B4 yv.length d4):=(by rw [cell_of_row _ _ 2 _ _ _ hd5]; rfl);have hgd:=aX hd5;have eu:=own_below' Hr5.out hbd;have hxl : xs.length = S.length * 3:=eu.1;have iw:=fT eu 0 0 S.length (by omega) (by omega);rw [Nat.zero_mul,List.drop_zero] at iw;have gZ:=fT eu S.length (S.length * 3) (S.length - S.length) rfl (by omega);rw [List.take_of_length_le (by rw [List.length_drop,hxl]; omega)] at gZ;have fK:=Ho5.out.ones;have Ik:=Lib.hid (show ∀ u ∈ xs.take (S.length * 3),u.oneCell' = true from fun u hu=>fK u (List.mem_of_mem_take hu));have gJ:=Lib.hid (show ∀ u ∈ [Value.string xk,.int .i64 xo,.slice B4 yv.length d4],u.oneCell' = true from by intro u hu; simp at hu; rcases hu with rfl | rfl | rfl <;> rfl);have Ny:=Lib.hid (show ∀ u ∈ xs.drop (S.length * 3),u.oneCell' = true from fun u hu=>fK u (List.mem_of_mem_drop hu));have iV:=Lib.hid iw;have nK:=Lib.hid gZ;have kP:=Lib.hid hbd;have Hxl:=Lib.hid hxl;have fJ : S.length ≤ 64:=(by omega);have hkd : S.length ≤ d0:=(by omega);have M4 : S.length ≤ S.length:=(by omega);clear hbd hd5 eu iw gZ fK hxl;go_wp2_with fail
          go_region_law (first
            | (refine xW (wd:=wd) rfl rfl _ rfl ?_ ?_ (some ⟨g0,0,none⟩) S.length d0 (xs.take (S.length * 3)) rfl iV.out Ik.out fJ ?_
               · first | exact Jw _ _ | exact Jy _ _ _
               · first | exact TH _ | exact TI _ _ | exact TJ _ _
               intro v5 w5b hown5 hb5 hs5 bN;have MK:=(World.cell?_of_block (hb5.block wo.heap.size hgd)).trans e0;have e15:=(World.cell?_of_block (hb5.block wo.heap.size hgd)).trans e1;have e25:=(World.cell?_of_block (hb5.block wo.heap.size hgd)).trans e2
               first | have jy:=TK bN | have jy:=TL bN | skip)
            | (refine vO (wd:=wd) rfl rfl _ S.length (xs.take (S.length * 3)) [.string xk,.int .i64 xo,.slice B4 yv.length d4] rfl ?_ ?_ (some ⟨_,0,none⟩) rfl ?_ gJ.out fJ ?_
               · first | exact hb5 | exact hb5.alloc hb5.size _
               · first | exact hown5 | exact own_below' hown5 ((Below.refl _ _).alloc (Nat.le_refl _) _)
               · first | exact jy | exact FK _ _ _ _
               intro v6 w6 hown6 hb6))
          all_goals
            obtain ⟨g6,c6,rfl⟩:=lV hown6 (by omega);have KF:=Lib.hid (nK.out.below hb6);have gD:=Lib.hid hown6;have zl:=Lib.hid hb6;clear hown6 hb6 hown5 hb5 hs5 bN MK e15 e25 e0 e1 e2;go_wp2_with (first | (refine aB rfl (.tmp 76) (.tmp 79) 25 rfl wd.heap.size 69 i0 _ 3 48 Tryz.underlying25 hi hz0 hz1 hz2 rfl (by decide) _ (S.length + 1) _ rfl gD.out _ (0) _ (([] : List Value)) rfl (jI.nil _ _ _) (fun u hu=>by cases hu) (by unfold maxLen; omega) (by omega) zl.out.size ?_) | fail)
            all_goals
              intro v7 w7 h7 gM ig;have nP : Below wd.heap.size wd w7:=zl.out.grown gM zl.out.size (fun b hb=>(gD.out.lt b hb).1);have Wu:=Ho5.out.below kP.out;have hO2:=XK.out.below kP.out;obtain ⟨F',hO,hN,hsub⟩:=JE (k:=S.length) (Wu.below nP) Hn5.out (hO2.below nP) HnG.out HFG.out
              have en : S.length + 1 = (fH (l.take (j + 1))).length:=by
                rw [jK.out,kC.out,List.length_append,List.length_take,List.length_cons,List.length_drop];omega
              have er : (S.flatMap Need.row).take (S.length * 3) ++ y.row ++ (S.flatMap Need.row).drop (S.length * 3) = (fH (l.take (j + 1))).flatMap Need.row:=by
                rw [Cm,Cn,jK.out,kC.out,List.flatMap_append,List.flatMap_cons,List.append_assoc]
              rw [er] at hO;rw [show xs.drop (S.length * 3) = [] from List.drop_of_length_le (by rw [Hxl.out]; exact Nat.le_refl _),List.append_nil] at hO;rw [en] at h7;obtain ⟨g7,c7,rfl⟩:=lV h7 (by rw [← en]; omega)
              have XL:=Lib.hid (show dx w7 w.heap.size 2 69 3 (.slice (some ⟨g7,0,none⟩) (fH (l.take (j + 1))).length c7) (fH (l.take (j + 1))).length ((fH (l.take (j + 1))).flatMap Need.row) from ⟨_,F',bR h7 (by have h1:=FM.out.size; have h2:=kP.out.size; omega),aM (f:=Need.row) (sz:=3) Need.au _,hO,hN,fun x hx e=>by
                have h1:=(h7.lt x e).1;rcases hsub x hx with h2 | h2
                · have:=(Wu.range x h2).2; omega
                · have:=(hO2.range x h2).2; omega⟩)
              have yC:=Lib.hid (ah FM.out (ah kP.out nP kP.out.size) FM.out.size);clear h7 gM ig nP Wu hO2 hO hN hsub en er;go_wp2_with fail
              go_roundw
              case rel=>exact ⟨j + 1,_,g7,c7,by omega,by go_num,KJ.out,rfl,rfl,XL.out,yC.out⟩
              case measure=>simp [intOf]; omega
    · obtain rfl : j = l.length:=(by omega);rw [List.take_length] at hS;subst hS;have Hf:=Lib.hid (xq.out);obtain ⟨F,ho,hnd,_⟩:=hrow.own;have HC:=Lib.hid (FJ (fH l) _ _ wo ho.lies Tw.out);have HCO:=Lib.hid (fun w1 (hb : Below wo.heap.size wo w1)=>wM.out w1 (ah hbel hb hbel.size));have HR1:=Lib.hid (fun w1 (hb : Below wo.heap.size wo w1)=>show dB w w1 (.returned (.tuple #[.slice (some ⟨g0,0,none⟩) (fH l).length d0,.bool true])) 3 Need.row (fH l,true) from ⟨_,2,F,rfl,ho.below hb,hnd,ah hbel hb hbel.size⟩);have bg:=Lib.hid hbel;clear hrow ho hnd hbel wM Tw;by_cases hP : mF (fH l)
      · rw [aQ hP] at HC;have HS:=Lib.hid (xq.out hP FL.out);clear hP FL Hf xq Nu Nv;go_wp2_with fail;refine HC.out.mono ?_;rintro e w4 ⟨rfl,hb⟩;have HR:=Lib.hid (HR1.out w4 hb);clear hb;go_wp2_with fail
        go_ret2
        rw [HS.out];exact HR.out
      · rw [aP hP] at HC;have HS:=Lib.hid (Nu.out hP);clear hP FL Hf xq Nu Nv;go_wp2_with fail;refine HC.out.mono ?_;rintro e w4 ⟨rfl,hb⟩;have Yo:=Lib.hid (HCO.out w4 hb);have Nz:=Lib.hid (ah bg.out hb bg.out.size);clear hb;go_wp2_with fail;refine Yo.out.mono ?_;rintro e w5 ⟨x1,rfl,hrow,hb⟩;obtain ⟨F5,ho,hnd,_⟩:=(hrow.lower Nz.out.size).own;have HR:=Lib.hid (show dB w w5 (.returned (.tuple #[x1,.bool false])) 3 Need.row (l,false) from ⟨_,2,F5,rfl,ho,hnd,ah Nz.out hb Nz.out.size⟩);clear hrow hb ho hnd;go_wp2_with fail
        go_ret2
        rw [HS.out];exact HR.out
end Go.Proofs.YtcfbkfmkjggcdaaGreatDoor.need
