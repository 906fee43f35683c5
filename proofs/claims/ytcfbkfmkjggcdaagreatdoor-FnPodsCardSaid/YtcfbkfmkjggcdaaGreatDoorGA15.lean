/- Merged: ToPod DrawNx DrawNg PtPod PodM LabelI. -/
import Derived.Test.YtcfbkfmkjggcdaaGreatDoorGA14
import Derived.Test.YtcfbkfmkjggcdaaGreatDoorGA9
import Derived.Test.YtcfbkfmkjggcdaaGreatDoorGA5
import Derived.Test.YtcfbkfmkjggcdaaGreatDoorGA12
import Derived.Test.YtcfbkfmkjggcdaaGreatDoorRows
import Derived.ProofKit
import Derived.OpenShut
import Derived.Deep.WholeRow
import Derived.Deep.RegionHeld3
import Derived.Deep.RegionLaw
import Derived.Test.YtcfbkfmkjggcdaaGreatDoorGA10
import Derived.Test.YtcfbkfmkjggcdaaGreatDoorGA0
import Derived.Test.YtcfbkfmkjggcdaaGreatDoorGA6
import Derived.Test.YtcfbkfmkjggcdaaGreatDoorGA11
import Derived.Test.YtcfbkfmkjggcdaaGreatDoorGA8
import Derived.Test.YtcfbkfmkjggcdaaGreatDoorGA2
import Derived.Test.YtcfbkfmkjggcdaaGreatDoorGA1
import Derived.Laws.Cover1
set_option linter.unusedVariables false
namespace Go.Proofs.YtcfbkfmkjggcdaaGreatDoor
namespace ty
open Go.ChangeShapes Go.WideShapes Go.ChangeAt Go.RowKit
theorem aS : (Tryz.prog.info? 28).map (·.size) = some 7:=by kernel_rfl
end ty
namespace draw
open Go.ChangeShapes Go.WideShapes Go.ChangeAt Go.RowKit ty lab need dedup
structure AY (w : World) (c : Nat) (A : Option Addr) (len cap : Nat) (z : Nat → Int) (b1 : Nat) (k : ByteArray) (op : Int) (vs : List ByteArray) (v : Value) (F : List Nat) (a : World) : Prop where
  cur : jJ a c A len cap z
  grown : w.grownBy a (some c)
  zero : a.heap[w.heap.size]? = some (.cells #[.string ⟨#[]⟩,.int .i64 0,.slice none 0 0] 69 (0,0))
  mine : a.heap[b1]? = some (.cells #[.string k,.int .i64 op,v] 69 (0,0))
  own : Own a (w.heap.size + 1) 2 v (.sl 1 vs.length (vs.flatMap Str.row)) F
  nd : F.Nodup
  out : ∀ y ∈ F,y ≠ b1
section
variable {w a b : World} {c : Nat} {A : Option Addr} {len cap : Nat} {z : Nat → Int} {b1 : Nat} {k : ByteArray} {op : Int} {vs : List ByteArray} {v : Value} {F : List Nat}
theorem AY.turn (h : AY w c A len cap z b1 k op vs v F a) (hcw : c < w.heap.size) (hb1 : w.heap.size < b1) (hc : jJ b c A len cap z) (hg : a.grownBy b (some c)) : AY w c A len cap z b1 k op vs v F b:=
  ⟨hc,aA h.grown hg,mW h.zero (by omega) hg,mW h.mine (by omega) hg,FE h.own (by omega) hg,h.nd,h.out⟩
theorem AY.below (h : AY w c A len cap z b1 k op vs v F a) (hcw : c < w.heap.size) (hb : Below a.heap.size a b) : AY w c A len cap z b1 k op vs v F b:=
  ⟨h.cur.below hb h.cur.lt,aK h.grown (hb.mono h.grown.size),eX hb (aX h.zero) h.zero,eX hb (aX h.mine) h.mine,h.own.below hb,h.nd,h.out⟩
theorem AY.put (h : AY w c A len cap z b1 k op vs v F a) (hcw : c < w.heap.size) (hb1 : w.heap.size < b1) (i : Nat) (u : Value) {k' : ByteArray} {op' : Int} (he : (#[.string k,.int .i64 op,v] : Array Value).setIfInBounds i u = #[.string k',.int .i64 op',v]) : AY w c A len cap z b1 k' op' vs v F (a.setCell ⟨b1,i,none⟩ u):=by
  have hb : Below b1 a (a.setCell ⟨b1,i,none⟩ u):=(Below.refl b1 a).setCell (by show b1 ≤ b1; exact Nat.le_refl _) _;refine ⟨h.cur.below hb (by omega),aK h.grown (hb.mono (by omega)),(Below.heap_setCell _ _ _ _ (by show w.heap.size ≠ b1; omega)).trans h.zero,?_,h.own.kept fun x hx=>Below.heap_setCell _ _ _ _ (h.out x hx),h.nd,h.out⟩;rw [← he];exact heap_setCell_same _ _ _ _ _ _ h.mine
theorem AY.fO (h : AY w c A len cap z b1 k op vs v F a) : a.cell? ⟨b1,2,none⟩ = some v:=by rw [cell_of_row _ _ 2 _ _ _ h.mine]; rfl
theorem AY.alloc (h : AY w c A len cap z b1 k op vs v F a) (hcw : c < w.heap.size) (o : Obj) : AY w c A len cap z b1 k op vs v F (a.alloc o):=h.below hcw ((Below.refl _ _).alloc (Nat.le_refl _) o)
theorem AY.row (h : AY w c A len cap z b1 k op vs v F a) : ∃ e,a.ownsRow (w.heap.size + 1) e 1 v vs.length (aT vs):=by
  have h0:=h.own;rw [Str.flat] at h0;obtain ⟨e,hr,_,_⟩:=uZ h0;exact ⟨e,hr⟩
theorem AY.done {q : Nat} (h : AY w c A len cap z b1 k op vs v F a) (hcw : c < w.heap.size) (ht : gV q ⟨k,op,vs⟩) :
    Nj q c A len cap z w (.returned (.agg #[.string k,.int .i64 op,v])) (a.setRow w.heap.size #[.string k,.int .i64 op,v]):=by
  have o2:=Own.gH h.own (c:=#[.string k,.int .i64 op,v]) (show w.heap.size < w.heap.size + 1 by omega);obtain ⟨G,tZ,xK,_⟩:=Need.owned (x:=⟨k,op,vs⟩) (f:=1) ht.wf (o2.lower (B':=w.heap.size) (by omega)) h.nd;have hb2 : Below w.heap.size a (a.setRow w.heap.size #[.string k,.int .i64 op,v]):=ay (Below.refl _ _) (Nat.le_refl _) _;exact ⟨_,_,G,ht,rfl,tZ,xK,h.cur.below hb2 hcw,aK h.grown hb2⟩
theorem AY.grow {X w7 : World} {e7 : TypeId} {v7 : Value} {t : ByteArray} (h : AY w c A len cap z b1 k op vs v F X) (hcw : c < w.heap.size) (hb1 : w.heap.size < b1) (hs : ∀ s ∈ vs ++ [t],s.size ≤ 5)
    (hown : w7.ownsRow (w.heap.size + 1) e7 1 v7 (vs.length + 1) (aT vs ++ [.string t])) (hg : X.grownBy w7 v.ownBlock) (hat : v7.ownBlock = v.ownBlock ∨ v7.ownBlock = some X.heap.size) :
    (∃ F7,AY w c A len cap z b1 k op (vs ++ [t]) v7 F7 (w7.setCell ⟨b1,2,none⟩ v7)) ∧ w7.heap[b1]? = some (.cells #[.string k,.int .i64 op,v] 69 (0,0)):=by
  have hv : ∀ q,v.ownBlock = some q → w.heap.size + 1 ≤ q ∧ q ≠ b1:=fun q hq=>by
    have h0:=h.own;rw [Str.flat] at h0;obtain ⟨e,hr,_,hF⟩:=uZ h0;refine ⟨(hr.lt q hq).1,?_⟩;rcases hF with ⟨h1,_⟩ | ⟨g,h1,h2⟩
    · rw [h1] at hq; cases hq
    · rw [h1] at hq;injection hq with hq;subst hq;exact h.out g (by rw [h2]; simp)
  have hbx : b1 < X.heap.size:=aX h.mine;have nP : Below (w.heap.size + 1) X w7:=(Below.refl _ _).grown hg (by have:=h.grown.size; omega) (fun q hq=>(hv q hq).1);have PS : w7.heap[b1]? = some (.cells #[.string k,.int .i64 op,v] 69 (0,0)):=(hg.block b1 hbx (fun e=>(hv b1 e.symm).2 rfl)).trans h.mine;have hz : ∀ s ∈ vs ++ [t],s.size ≤ maxLen:=fun s hs'=>by have:=hs s hs'; unfold maxLen; omega
  rw [xV] at hown;have hl : (vs ++ [t]).length = vs.length + 1:=(by simp)
  have Yw : ∃ F7 : List Nat,(v7.ownBlock = none ∧ F7 = [] ∨ ∃ g,v7.ownBlock = some g ∧ F7 = [g]):=by
    cases hv7 : v7.ownBlock with
    | none=>exact ⟨[],.inl ⟨rfl,rfl⟩⟩
    | some g=>exact ⟨[g],.inr ⟨g,rfl,rfl⟩⟩
  obtain ⟨F7,Yw⟩:=Yw;have Jo:=AZ (f:=0) hown hl.symm hz Yw;rw [← Str.flat,← hl] at Jo
  have hout : ∀ y ∈ F7,y ≠ b1:=fun y hy=>by
    rcases Yw with ⟨_,rfl⟩ | ⟨g,gM,rfl⟩
    · cases hy
    · rw [List.mem_singleton] at hy;subst hy;rcases hat with e | e
      · exact (hv y (e ▸ gM)).2
      · rw [e] at gM;injection gM with gM;omega
  have G8 : Below (w.heap.size + 1) X (w7.setCell ⟨b1,2,none⟩ v7):=nP.setCell (by show w.heap.size + 1 ≤ b1; omega) _;refine ⟨⟨F7,h.cur.below G8 (by omega),aK h.grown (G8.mono (by omega)),(G8.block _ (by omega)).trans h.zero,heap_setCell_same _ _ _ _ _ _ PS,Jo.kept fun x hx=>Below.heap_setCell _ _ _ _ (hout x hx),?_,hout⟩,PS⟩;rcases Yw with ⟨_,rfl⟩ | ⟨g,_,rfl⟩
  · exact List.nodup_nil
  · simp
end
theorem QD {w : World} {B f : Nat} {us : List Value} {x : Need} {F : List Nat} (h : bq w B f us x.row F) : ∃ v,us = [.string x.key,.int .i64 x.op,v] ∧ Own w B f v (.sl 1 x.values.length (x.values.flatMap Str.row)) F:=by
  obtain ⟨A2,c2,kN,hwf,_⟩:=Need.opened h.lies;obtain ⟨v0,_,G0,_,e0,hF,o0,h⟩:=h.bO;obtain ⟨v1,_,G1,_,rfl,rfl,o1,h⟩:=h.bO;obtain ⟨v2,r,G2,F',rfl,rfl,o2,h⟩:=h.bO;obtain ⟨rfl,rfl⟩:=h.nO
  have hG0 : G0 = []:=by cases f with
    | zero=>exact o0.elim
    | succ f=>exact o0.2
  have hG1 : G1 = []:=by cases f with
    | zero=>exact o1.elim
    | succ f=>exact o1.2
  rw [kN] at e0;injection e0 with e1 e2;injection e2 with e2 e3;injection e3 with e3;subst e3;refine ⟨_,kN,?_⟩;rw [hF,hG0,hG1];simpa using o2
theorem xw {P : Program} {ops : Array Oper} {o : Oper} {a : Act} {w : World} {K : Act → World → Prop} {Q : Exit → Act → World → Prop} {E : Prop}
    (hg : o.guard = none) (s x : Operand) (t : TypeId) (hop : o.op = Op.call { callee:=Callee.builtin Builtin.append,args:=#[s,x],argTypes:=#[t,t] })
    (B : Nat) (e e0 : TypeId) (i : TypeInfo) (z : Value) (size bytes : Nat) (h1 : P.underlying t = some (.slice e)) (h2 : P.info? e = some i) (h3 : i.zero = some z) (h4 : i.size = size) (h5 : i.bytes = bytes) (h6 : z.cells.size = size) (h7 : 0 < size)
    (v : Value) (n : Nat) (xs : List Value) (hs : a.eval s = v) (hown : w.ownsRow B e0 size v n xs)
    (ad : Addr) (m c : Nat) (news : List Value) (hx : a.eval x = .slice (some ad) m c) (hn : news.length = m * size) (hc : ∀ j u,news[j]? = some u → w.cell? (ad.add j) = some u) (h1c : ∀ u ∈ news,u.oneCell' = true)
    (b1 : n + m ≤ maxLen) (b2 : (n + m) * bytes ≤ 140737488355328) (b3 : B ≤ w.heap.size)
    (hK : ∀ v' w' e1,w'.ownsRow B e1 size v' (n + m) (xs ++ news) → w.grownBy w' v.ownBlock → (v'.ownBlock = v.ownBlock ∨ v'.ownBlock = some w.heap.size) → K (a.put o.dst v') w') :
    if Region.wanted o (yielded ops a.tmps) = true then Oper.wp P o a w K Q else E:=by
  have hw : Region.wanted o (yielded ops a.tmps) = true:=(by simp [Region.wanted,hg]);rw [if_pos hw];obtain ⟨v',w',e1,hrun,r1,r2,r3⟩:=qw (P:=P) w B t o.type e e0 i z size bytes h1 h2 h3 h4 h5 h6 h7 v n xs hown ad m c news hn hc h1c b1 b2 b3;unfold Oper.wp;simp [execOp,hop,resolve,invoke,builtin,hs,hx,hrun,Result.andThen];exact hK v' w' e1 r1 r2 r3
theorem JK {n : Nat} {vs : List ByteArray} {t : ByteArray} (h : ∀ s ∈ vs,s.size ≤ n) (h2 : t.size ≤ n) : ∀ s ∈ vs ++ [t],s.size ≤ n:=fun s hs=>by
  rcases List.mem_append.1 hs with hs | hs
  · exact h s hs
  · rw [List.mem_singleton] at hs; subst hs; exact h2
def Cr : List ByteArray:=[⟨#[97]⟩,⟨#[122,122]⟩,⟨#[45]⟩,⟨#[]⟩]
theorem Im : ∀ x ∈ Cr,x.size ≤ 5:=by decide
def FQ : List ByteArray:=[⟨#[]⟩,⟨#[45]⟩]
theorem Io : ∀ x ∈ FQ,x.size ≤ 10:=by decide
set_option maxRecDepth 1000000 in
set_option maxHeartbeats 8000000 in
theorem FR (c : Nat) (A : Option Addr) (len cap : Nat) (z : Nat → Int) (w : World) (hc : jJ w c A len cap z) :
    Calls Tryz.prog 151 #[.pointer (some ⟨c,0,none⟩)] w (Nj 4 c A len cap z w):=by
  obtain ⟨i1,hi1,hy0,hy1,hy2⟩:=info_parts TryzinfoStrV;have aL:=hc.lt;obtain ⟨W,hW⟩ : ∃ W,W = w.alloc (.cells #[.string ⟨#[]⟩,.int .i64 0,.slice none 0 0] 69):=⟨_,rfl⟩;have h0 : W.heap[w.heap.size]? = some (.cells #[.string ⟨#[]⟩,.int .i64 0,.slice none 0 0] 69 (0,0)):=(by rw [hW]; exact heap_alloc_new w _);have hWs : W.heap.size = w.heap.size + 1:=(by rw [hW]; simp);have HN:=Lib.hid (FD c A len cap z W (by rw [hW]; exact dD hc _));have Wl:=Lib.hid (show w.grownBy W (some c) by rw [hW]; exact bX _ _ _);have H0:=Lib.hid h0;have HW:=Lib.hid hW;have HWs:=Lib.hid hWs;clear hc h0 hW hWs;go_enter Tryz.func151,Tryz.ntmps151;go_wp2_with fail;rw [← HW.out];go_wp2_with fail;refine HN.out.mono ?_;rintro e w1 ⟨⟨k,op,vs⟩,us,F,hx,rfl,tZ,xK,hc1,hg1⟩;obtain ⟨v,rfl,hov⟩:=QD tZ;simp only at hov;rw [HWs.out] at hov;obtain ⟨A2,c2,rfl,_⟩:=Str.opened hov.lies;have h01:=mW H0.out (by omega) hg1;have hb1 : w.heap.size < w1.heap.size:=aX h01;obtain ⟨X,hX⟩ : ∃ X,X = w1.alloc (.cells #[.string k,.int .i64 op,.slice A2 vs.length c2] 69):=⟨_,rfl⟩;have hbX : Below w1.heap.size w1 X:=(by rw [hX]; exact (Below.refl _ _).alloc (Nat.le_refl _) _)
  have SX:=Lib.hid (show AY w c A len cap z w1.heap.size k op vs (.slice A2 vs.length c2) F X from
    ⟨hc1.below hbX hc1.lt,aK (aA Wl.out hg1) (hbX.mono (Nat.le_of_lt hb1)),eX hbX hb1 h01,by rw [hX]; exact heap_alloc_new w1 _,hov.below hbX,xK,fun y hy=>by have:=(hov.range y hy).2; omega⟩)
  have HB:=Lib.hid (bM c A len cap z 10 X SX.out.cur (by decide) (by decide));have HX:=Lib.hid hX;have Hx:=Lib.hid hx;clear HN Wl H0 HW HWs hx tZ hov xK hc1 hg1 h01 hX hbX;go_wp2_with fail;rw [← HX.out];go_wp2_with fail;refine HB.out.mono ?_;rintro e w2 ⟨x,hx,rfl,hc2,hg2⟩;have S2:=Lib.hid (SX.out.turn aL hb1 hc2 hg2);clear HB SX hc2 hg2 HX;by_cases h0 : x = 0
  · subst h0;have HB:=Lib.hid (bM c A len cap z 7 w2 S2.out.cur (by decide) (by decide));clear hx;go_wp2_with fail;refine HB.out.mono ?_;rintro e w3 ⟨y,hy,rfl,hc3,hg3⟩;have S3:=Lib.hid (S2.out.turn aL hb1 hc3 hg3);have Eu : IntKind.i64.wrap (y - 1) = y - 1:=IntWalk.i64_in _ (by omega);obtain ⟨QE,abz⟩ : ∃ QE,y - 1 = QE:=⟨_,rfl⟩;rw [abz] at Eu;have Ht:=Lib.hid (show gV 4 ⟨k,QE,vs⟩ from ⟨Hx.out.key,by simp only; omega,by simp only; omega,Nat.le_trans Hx.out.n (by decide),Hx.out.vs⟩);have p1 : w3.cell? ⟨w1.heap.size,1,none⟩ = some (.int .i64 op):=(by rw [cell_of_row _ _ 1 _ _ _ S3.out.mine]; rfl);have f1:=frozen_of_row w3 _ 1 _ _ S3.out.mine;have S4:=Lib.hid (S3.out.put aL hb1 1 (.int .i64 QE) (k':=k) (op':=QE) rfl);clear HB S2 S3 hc3 hg3 hy Hx;generalize hz : w3.setCell ⟨w1.heap.size,1,none⟩ (.int .i64 QE) = z4 at *;have dJ:=S4.out.mine;have bJ:=S4.out.zero;have tF:=Lib.hid bJ;have HR:=Lib.hid (S4.out.done aL (q:=4) Ht.out);clear S4;go_wp2_with (first | (refine wpList_load_row rfl 69 _ rfl w1.heap.size rfl 69 #[.string k,.int .i64 QE,.slice A2 vs.length c2] (0,0) _ dJ Tryz.underlying69 rfl dP ?_) | (refine wpList_store_row rfl 69 _ _ rfl w.heap.size #[.string k,.int .i64 QE,.slice A2 vs.length c2] rfl rfl 69 _ bJ dP rfl (by simp [Value.oneCell']) ?_) | fail);refine bodyPost_ret (v:=.agg #[.string k,.int .i64 QE,.slice A2 vs.length c2]) ?_ rfl HR.out;exact results_cell_row rfl _ _ w.heap.size _ _ (0,0) _ rfl (aI tF.out) Tryz.underlying69 rfl dP
  by_cases h1 : x = 1
  · subst h1;clear hx h0;have p2 : w2.cell? ⟨w1.heap.size,2,none⟩ = some (.slice A2 vs.length c2):=(by rw [cell_of_row _ _ 2 _ _ _ S2.out.mine]; rfl);go_wp2_with fail;have Wp : vs.length ≤ 3:=Hx.out.n;have hvs:=Lib.hid (show ∀ s ∈ vs,s.size ≤ 5 from Hx.out.vs);have HP:=Lib.hid (jT c A len cap z w2.heap.size 4 (.slice (some ⟨w2.heap.size,0,none⟩) 4 4) Cr ((w2.alloc (.cells (aT Cr).toArray 9)).drew) ((dD S2.out.cur (.cells (aT Cr).toArray 9)).below (Below.refl (c + 1) _).drew (Nat.lt_succ_self c)) (by decide) (by decide) rfl S2.out.cur.lt (own_below' (World.ownsRow_lit w2 (aT Cr).toArray 4 (Nat.le_refl _) (by simp [maxLen]) rfl) (Below.refl _ _).drew));have S2d:=Lib.hid ((S2.out.alloc aL (.cells (aT Cr).toArray 9)).below aL (Below.refl _ _).drew);have p2a : ∀ o,(w2.alloc o).cell? ⟨w1.heap.size,2,none⟩ = some (.slice A2 vs.length c2):=fun o=>(S2.out.alloc aL o).fO;go_region_law (first | (go_simp; go_at_call 145; refine HP.out.mono ?_; rintro e w5 ⟨t,ht,rfl,mH,hg5⟩; have S5:=Lib.hid (S2d.out.turn aL hb1 mH hg5); have p5:=S5.out.fO; have p5a : ∀ o,(w5.alloc o).cell? ⟨w1.heap.size,2,none⟩ = some (.slice A2 vs.length c2):=fun o=>(S5.out.alloc aL o).fO; have HT:=Lib.hid (Im t ht); clear mH hg5 ht) | (obtain ⟨e9,hrow⟩:=(S5.out.alloc aL (.cells #[.string t] 9)).row; refine xw rfl (.tmp 17) (.tmp 21) 67 rfl (w.heap.size + 1) 9 e9 i1 _ 1 16 Tryz.underlying67 hi1 hy0 hy1 hy2 rfl (by decide) _ vs.length (aT vs) rfl hrow ⟨w5.heap.size,0,none⟩ 1 1 [.string t] rfl rfl (Kh w5 #[.string t] _) (by intro u hu; simp at hu; subst hu; rfl) (by unfold maxLen; omega) (by omega) (by have:=S5.out.grown.size; simp; omega) ?_; intro v7 w7 e7 o7 g7 a7; obtain ⟨⟨F7,S7⟩,PS⟩:=(S5.out.alloc aL (.cells #[.string t] 9)).grow aL hb1 (t:=t) (JK hvs.out HT.out) o7 g7 a7; have p7 : w7.cell? ⟨w1.heap.size,2,none⟩ = some (.slice A2 vs.length c2):=(cell_of_row w7 w1.heap.size 2 _ _ (0,0) PS).trans rfl; have f7:=frozen_of_row w7 _ 2 _ _ PS; obtain ⟨A7,c7,rfl⟩:=aW o7; have H7:=Lib.hid S7; have HT2:=Lib.hid (show gV 4 ⟨k,op,vs ++ [t]⟩ from ⟨Hx.out.key,Hx.out.lo,Hx.out.hi,(by simp only [List.length_append,List.length_singleton]; omega),JK hvs.out HT.out⟩); clear hrow o7 g7 a7 S7 PS))
    all_goals
      generalize hz : w7.setCell ⟨w1.heap.size,2,none⟩ (.slice A7 (vs.length + 1) c7) = z7 at *;have dJ:=H7.out.mine;have bJ:=H7.out.zero;have tF:=Lib.hid bJ;have HR:=Lib.hid (H7.out.done aL (q:=4) HT2.out);clear H7 S5 S2 S2d HP HT2 HT hz;go_wp2_with (first | (refine wpList_load_row rfl 69 _ rfl w1.heap.size rfl 69 #[.string k,.int .i64 op,.slice A7 (vs.length + 1) c7] (0,0) _ dJ Tryz.underlying69 rfl dP ?_) | (refine wpList_store_row rfl 69 _ _ rfl w.heap.size #[.string k,.int .i64 op,.slice A7 (vs.length + 1) c7] rfl rfl 69 _ bJ dP rfl (by simp [Value.oneCell']) ?_) | fail);refine bodyPost_ret (v:=.agg #[.string k,.int .i64 op,.slice A7 (vs.length + 1) c7]) ?_ rfl HR.out;exact results_cell_row rfl _ _ w.heap.size _ _ (0,0) _ rfl (aI tF.out) Tryz.underlying69 rfl dP
  have e0 : (x == 0) = false:=beq_eq_false_iff_ne.2 h0;have e1 : (x == 1) = false:=beq_eq_false_iff_ne.2 h1;by_cases h2 : x = 2
  · subst h2;have HP:=Lib.hid (jT c A len cap z w2.heap.size 2 (.slice (some ⟨w2.heap.size,0,none⟩) 2 2) FQ _ (dD S2.out.cur (.cells (aT FQ).toArray 9)) (by decide) (by decide) rfl S2.out.cur.lt (World.ownsRow_lit w2 (aT FQ).toArray 2 (Nat.le_refl _) (by simp [maxLen]) rfl));have S2':=Lib.hid (S2.out.below aL ((Below.refl _ _).alloc (Nat.le_refl _) (.cells (aT FQ).toArray 9)));clear hx h0 h1 e0 e1 S2;go_wp2_with fail;refine HP.out.mono ?_;rintro e w3 ⟨t,ht,rfl,hc3,hg3⟩;have S3:=Lib.hid (S2'.out.turn aL hb1 hc3 hg3);have Ht:=Lib.hid (show gV 4 ⟨t,op,vs⟩ from ⟨Io t ht,Hx.out.lo,Hx.out.hi,Nat.le_trans Hx.out.n (by decide),Hx.out.vs⟩);have p1 : w3.cell? ⟨w1.heap.size,0,none⟩ = some (.string k):=(by rw [cell_of_row _ _ 0 _ _ _ S3.out.mine]; rfl);have f1:=frozen_of_row w3 _ 0 _ _ S3.out.mine;have S4:=Lib.hid (S3.out.put aL hb1 0 (.string t) (k':=t) (op':=op) rfl);clear HP S2' S3 hc3 hg3 ht Hx;generalize hz : w3.setCell ⟨w1.heap.size,0,none⟩ (.string t) = z4 at *;have dJ:=S4.out.mine;have bJ:=S4.out.zero;have tF:=Lib.hid bJ;have HR:=Lib.hid (S4.out.done aL (q:=4) Ht.out);clear S4;go_wp2_with (first | (refine wpList_load_row rfl 69 _ rfl w1.heap.size rfl 69 #[.string t,.int .i64 op,.slice A2 vs.length c2] (0,0) _ dJ Tryz.underlying69 rfl dP ?_) | (refine wpList_store_row rfl 69 _ _ rfl w.heap.size #[.string t,.int .i64 op,.slice A2 vs.length c2] rfl rfl 69 _ bJ dP rfl (by simp [Value.oneCell']) ?_) | fail);refine bodyPost_ret (v:=.agg #[.string t,.int .i64 op,.slice A2 vs.length c2]) ?_ rfl HR.out;exact results_cell_row rfl _ _ w.heap.size _ _ (0,0) _ rfl (aI tF.out) Tryz.underlying69 rfl dP
  have e2 : (x == 2) = false:=beq_eq_false_iff_ne.2 h2;have Ht:=Lib.hid (show gV 4 ⟨k,op,vs⟩ from ⟨Hx.out.key,Hx.out.lo,Hx.out.hi,Nat.le_trans Hx.out.n (by decide),Hx.out.vs⟩);clear hx h0 h1 h2 Hx;have dJ:=S2.out.mine;have bJ:=S2.out.zero;have tF:=Lib.hid bJ;have HR:=Lib.hid (S2.out.done aL (q:=4) Ht.out);clear S2;go_wp2_with (first | (refine wpList_load_row rfl 69 _ rfl w1.heap.size rfl 69 #[.string k,.int .i64 op,.slice A2 vs.length c2] (0,0) _ dJ Tryz.underlying69 rfl dP ?_) | (refine wpList_store_row rfl 69 _ _ rfl w.heap.size #[.string k,.int .i64 op,.slice A2 vs.length c2] rfl rfl 69 _ bJ dP rfl (by simp [Value.oneCell']) ?_) | fail);refine bodyPost_ret (v:=.agg #[.string k,.int .i64 op,.slice A2 vs.length c2]) ?_ rfl HR.out;exact results_cell_row rfl _ _ w.heap.size _ _ (0,0) _ rfl (aI tF.out) Tryz.underlying69 rfl dP
end draw
namespace draw
open Go.ChangeShapes Go.WideShapes Go.ChangeAt Go.RowKit ty lab need dedup
theorem xA {w w1 w3 : World} {c f : Nat} {A : Option Addr} {len cap : Nat} {z : Nat → Int} {v : Value} {l : List Need} {F : List Nat} {y : Need} {us : List Value} {G : List Nat} {T : TypeId} (t0 : TypeId)
    (S : FH w c A len cap z v l f F w1) (hcw : c < w.heap.size) (hc3 : jJ w3 c A len cap z) (hg : w1.grownBy w3 (some c)) (tZ : bq w3 w1.heap.size 2 us y.row G) (xK : G.Nodup) (kN : us.length = 3) :
    ∃ e0 xs,(w3.alloc (.cells us.toArray T)).ownsRow w.heap.size e0 3 v l.length xs ∧ jI (w3.alloc (.cells us.toArray T)) (some ⟨w3.heap.size,0,none⟩) 1 3 us ∧ (∀ u ∈ us,u.oneCell' = true) ∧ w.heap.size ≤ (w3.alloc (.cells us.toArray T)).heap.size ∧
      ∀ v7 w7 e7,w7.ownsRow w.heap.size e7 3 v7 (l.length + 1) (xs ++ us) → (w3.alloc (.cells us.toArray T)).grownBy w7 v.ownBlock → (v7.ownBlock = v.ownBlock ∨ v7.ownBlock = some (w3.heap.size + 1)) →
        ∃ F7,FH w c A len cap z v7 (l ++ [y]) (f + 2) F7 w7:=by
  obtain ⟨e0,hrow⟩:=Ih t0 S.own S.nd;obtain ⟨xs,F2,hr1,hr2,hr3,hr4,jy⟩:=hrow
  have XF : ∀ q ∈ F2,q ∉ G:=fun q hq Wz=>by
    have h1:=(tZ.range q Wz).1;have h2:=(hr3.range q hq).2;omega
  have VK : ∀ q ∈ G,v.ownBlock ≠ some q:=fun q Wz e=>by
    have h1:=(tZ.range q Wz).1;have h2:=(hr1.lt q e).2;omega
  have hbX : Below w3.heap.size w3 (w3.alloc (.cells us.toArray T)):=(Below.refl _ _).alloc (Nat.le_refl _) _;have hs1:=S.grown.size;have hs3:=hg.size;have JI : w.heap.size ≤ (w3.alloc (.cells us.toArray T)).heap.size:=Nat.le_trans hs1 (Nat.le_trans hs3 hbX.size);have NJ:=own_below' (vN hr1 hcw hg) hbX;refine ⟨e0,xs,NJ,o9 kN (heap_alloc_new w3 _),tZ.ones,JI,fun v7 w7 e7 h7 gM ig=>?_⟩;have TR:=dx.grow (w:=w3.alloc (.cells us.toArray T)) (f:=f + 2) (m:=1) hr2 ((FC hr3 hcw hg).below hbX |>.deeper (by omega)) hr4 jy (Need.au y) (((tZ.lower hs1).below hbX).deeper (by omega)) xK XF VK h7 gM (ig.imp id fun h=>h.trans (by simp));have hfl : (l ++ [y]).flatMap Need.row = l.flatMap Need.row ++ y.row:=(by rw [List.flatMap_append]; simp);rw [← hfl] at TR;obtain ⟨F7,Jo,VW,_⟩:=TR.own;have nP : Below w.heap.size (w3.alloc (.cells us.toArray T)) w7:=(Below.refl _ _).grown gM JI (fun q hq=>(NJ.lt q hq).1);have hb : Below w.heap.size w3 w7:=(hbX.mono (by omega)).trans nP;have hl : (l ++ [y]).length = l.length + 1:=(by simp);rw [← hl] at Jo;exact ⟨F7,hc3.below hb hcw,aK (aA S.grown hg) hb,Jo,VW⟩
end draw
namespace ty
open Go Go.RowKit
theorem Pod.parts {w : World} {B f : Nat} {us : List Value} {x : Pod} {F : List Nat} (h : bq w B (f + 1) us x.row F) (hn : F.Nodup) : ∃ A1 c1 F1 A5 c5 F5 A6 c6 F6,us = [.string x.name,.slice A1 x.labels.length c1,.int .i64 x.cpu,.int .i64 x.mem,.int .i64 x.rank,.slice A5 x.needs.length c5,.slice A6 x.tolerances.length c6] ∧ x.Wf ∧ Og w B w.heap.size (f + 1) (.slice A1 x.labels.length c1) (.sl 2 x.labels.length (x.labels.flatMap Label.row)) F1 ∧ Og w B w.heap.size (f + 1) (.slice A5 x.needs.length c5) (.sl 3 x.needs.length (x.needs.flatMap Need.row)) F5 ∧ Og w B w.heap.size (f + 1) (.slice A6 x.tolerances.length c6) (.sl 4 x.tolerances.length (x.tolerances.flatMap aj.row)) F6 ∧ (∀ y ∈ F1,y ∉ F5) ∧ (∀ y ∈ F1,y ∉ F6) ∧ (∀ y ∈ F5,y ∉ F6):=by
  have hl:=h.lies;unfold Pod.row at h;obtain ⟨v0,us,F0,F',rfl,rfl,o0,h⟩:=h.bO;obtain ⟨v1,us,F1,F',rfl,rfl,o1,h⟩:=h.bO;obtain ⟨v2,us,F2,F',rfl,rfl,o2,h⟩:=h.bO;obtain ⟨v3,us,F3,F',rfl,rfl,o3,h⟩:=h.bO;obtain ⟨v4,us,F4,F',rfl,rfl,o4,h⟩:=h.bO;obtain ⟨v5,us,F5,F',rfl,rfl,o5,h⟩:=h.bO;obtain ⟨v6,us,F6,F',rfl,rfl,o6,h⟩:=h.bO;obtain ⟨rfl,rfl⟩:=h.nO;obtain ⟨⟨rfl,w0⟩,rfl⟩:=o0;obtain ⟨A1,c1,rfl,_,_,_⟩:=o1.lies.sl;obtain ⟨⟨rfl,w2⟩,rfl⟩:=o2;obtain ⟨⟨rfl,w3⟩,rfl⟩:=o3;obtain ⟨⟨rfl,w4⟩,rfl⟩:=o4;obtain ⟨A5,c5,rfl,_,_,_⟩:=o5.lies.sl;obtain ⟨A6,c6,rfl,_,_,_⟩:=o6.lies.sl;simp only [List.nil_append,List.append_nil] at hn;obtain ⟨n1,hn,d1⟩:=List.nodup_append.1 hn;obtain ⟨n5,n6,d5⟩:=List.nodup_append.1 hn;exact ⟨A1,c1,F1,A5,c5,F5,A6,c6,F6,rfl,⟨w0,w2,w3,w4⟩,⟨o1,n1,o1.range⟩,⟨o5,n5,o5.range⟩,⟨o6,n6,o6.range⟩,fun y hx hy=>d1 y hx y (List.mem_append_left _ hy) rfl,fun y hx hy=>d1 y hx y (List.mem_append_right _ hy) rfl,fun y hx hy=>d5 y hx y hy rfl⟩
end ty
namespace pod
open Go Go.RowKit ty lab need taint
structure qG (x : Pod) : Prop where
  name : nL x.name
  labels : dw x.labels
  cpu : 0 ≤ x.cpu
  mem : 0 ≤ x.mem
  lo : 0 ≤ x.rank
  hi : x.rank ≤ 1000
  needs : mF x.needs
  tolerances : dN x.tolerances
structure kU (x : Host) : Prop where
  name : nL x.name
  labels : dw x.labels
  cpu : 0 ≤ x.cpu
  mem : 0 ≤ x.mem
  lo : 1 ≤ x.slots
  hi : x.slots ≤ 20
  bP : bL x.bP
noncomputable def ji (x : Pod) : Pod:=⟨x.name,(eB x.labels).1,x.cpu,x.mem,x.rank,(iF x.needs).1,(dK dN bU x.tolerances).1⟩
noncomputable def fP (x : Host) : Host:=⟨x.name,(eB x.labels).1,x.cpu,x.mem,x.slots,(dK bL bA x.bP).1⟩
open Classical in
noncomputable def ni (x : Pod) : Pod × Bool:=if (eB x.labels).2 = true ∧ (iF x.needs).2 = true ∧ (dK dN bU x.tolerances).2 = true ∧ qG (ji x) then (ji x,true) else (x,false)
open Classical in
noncomputable def iZ (x : Host) : Host × Bool:=if (eB x.labels).2 = true ∧ (dK bL bA x.bP).2 = true ∧ kU (fP x) then (fP x,true) else (x,false)
theorem FT {x : Pod} (h1 : (eB x.labels).2 = true) (h2 : (iF x.needs).2 = true) (h3 : (dK dN bU x.tolerances).2 = true) (h4 : qG (ji x)) : ni x = (ji x,true):=by unfold ni; rw [if_pos ⟨h1,h2,h3,h4⟩]
theorem JL {x : Pod} (h : ¬ ((eB x.labels).2 = true ∧ (iF x.needs).2 = true ∧ (dK dN bU x.tolerances).2 = true ∧ qG (ji x))) : ni x = (x,false):=by unfold ni; rw [if_neg h]
theorem Ct {x : Host} (h1 : (eB x.labels).2 = true) (h2 : (dK bL bA x.bP).2 = true) (h3 : kU (fP x)) : iZ x = (fP x,true):=by unfold iZ; rw [if_pos ⟨h1,h2,h3⟩]
theorem FU {x : Host} (h : ¬ ((eB x.labels).2 = true ∧ (dK bL bA x.bP).2 = true ∧ kU (fP x))) : iZ x = (x,false):=by unfold iZ; rw [if_neg h]
end pod
namespace lab
open Go.ChangeShapes Go.WideShapes Go.ChangeAt Go.RowKit ty
theorem JM {p q : Prop} : yes (p ∧ q) = (yes p && yes q):=by
  by_cases hp : p
  · by_cases hq : q
    · rw [aQ hp,aQ hq,aQ ⟨hp,hq⟩]; rfl
    · rw [aQ hp,aP hq,aP fun h=>hq h.2]; rfl
  · rw [aP hp,aP fun h=>hp h.1]; rfl
set_option maxRecDepth 100000 in
set_option maxHeartbeats 4000000 in
theorem zO (x : Label) (w : World) (hw : x.Wf) :
    Calls Tryz.prog 158 #[.agg #[.string x.key,.string x.value]] w fun e w'=>e = .returned (.bool (yes (gP x.key ∧ gG x.value))) ∧ Below w.heap.size w w':=by
  have h1:=hw.1;have h2:=hw.2;unfold maxLen at h1 h2;have HK:=Lib.hid (fun w=>E8 x.key w h1);have HV:=Lib.hid (fun w=>E9 x.value w h2);rw [JM];clear hw h1 h2;generalize x.key = a at HK;generalize x.value = b at HV;cases hk : yes (gP a) with
  | false=>
    rw [hk] at HK;clear hk HV;go_enter Tryz.func158,Tryz.ntmps158;go_wp2_with fail;refine (HK.out _).mono ?_;rintro e w1 ⟨rfl,hb⟩;go_wp2_with fail;go_ret;exact ⟨rfl,(Below.refl _ _).alloc (Nat.le_refl _) _ |>.trans (hb.mono (by simp))⟩
  | true=>
    rw [hk] at HK;generalize yes (gG b) = R at HV;clear hk;go_enter Tryz.func158,Tryz.ntmps158;go_wp2_with fail;refine (HK.out _).mono ?_;rintro e w1 ⟨rfl,hb⟩
    have q1 : w1.cell? ⟨w.heap.size,1,none⟩ = some (.string b):=by
      rw [World.cell?_of_block (hb.block _ (by simp))];simp
    have hb2 : Below w.heap.size w w1:=(Below.refl _ _).alloc (Nat.le_refl _) _ |>.trans (hb.mono (by simp))
    clear hb;go_wp2_with fail;refine (HV.out _).mono ?_;rintro e w2 ⟨rfl,hb⟩;go_wp2_with fail;go_ret;exact ⟨by cases R <;> rfl,hb2.trans (hb.mono hb2.size)⟩
end lab
end Go.Proofs.YtcfbkfmkjggcdaaGreatDoor
