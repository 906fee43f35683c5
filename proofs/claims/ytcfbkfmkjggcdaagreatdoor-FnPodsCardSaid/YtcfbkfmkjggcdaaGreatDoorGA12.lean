/- Merged: DrawNd DrawNm ToNeedS CopyNS. -/
import Derived.Test.YtcfbkfmkjggcdaaGreatDoorGA0
import Derived.Test.YtcfbkfmkjggcdaaGreatDoorGA11
import Derived.Test.YtcfbkfmkjggcdaaGreatDoorGA9
import Derived.Test.YtcfbkfmkjggcdaaGreatDoorGA5
import Derived.Deep.WholeRow
import Derived.OwnWalk
set_option linter.unusedVariables false
namespace Go.Proofs.YtcfbkfmkjggcdaaGreatDoor
namespace draw
open Go.ChangeShapes Go.WideShapes Go.ChangeAt Go.RowKit ty lab need dedup
structure gV (q : Nat) (x : Need) : Prop where
  key : x.key.size ≤ 10
  lo : -1 ≤ x.op
  hi : x.op ≤ 6
  n : x.values.length ≤ q
  vs : ∀ s ∈ x.values,s.size ≤ 5
theorem Wj {n : Int} (h1 : -1 ≤ n) (h2 : n ≤ 6) : (Lit.int .i64 n).wf = true:=by
  have : n = -1 ∨ n = 0 ∨ n = 1 ∨ n = 2 ∨ n = 3 ∨ n = 4 ∨ n = 5 ∨ n = 6:=(by omega);rcases this with rfl | rfl | rfl | rfl | rfl | rfl | rfl | rfl <;> decide
theorem gV.wf {q : Nat} {x : Need} (h : gV q x) : x.Wf:=⟨by have:=h.key; unfold maxLen; omega,Wj h.lo h.hi⟩
theorem Fz : ∀ l : List ByteArray,(∀ s ∈ l,s.size ≤ 5) → bH Str.wt l ≤ 5 * l.length
  | [],_=>by simp [bH]
  | a :: r,h=>by
    have h1:=h a List.mem_cons_self;have h2:=Fz r fun s hs=>h s (List.mem_cons_of_mem _ hs);have e : bH Str.wt (a :: r) = a.size + bH Str.wt r:=(by simp [bH,Str.wt]);rw [e,List.length_cons];omega
theorem gV.wt {q : Nat} {x : Need} (h : gV q x) : x.wt ≤ 10 + 6 * q:=by
  have h1:=Fz _ h.vs;have h2:=h.key;have h3:=h.n;unfold Need.wt;omega
theorem gV.more {q q' : Nat} {x : Need} (h : gV q x) (hq : q ≤ q') : gV q' x:=⟨h.key,h.lo,h.hi,Nat.le_trans h.n hq,h.vs⟩
theorem gV.norm {q : Nat} {x : Need} (h : gV q x) : gV q (kH x):=⟨h.key,h.lo,h.hi,Nat.le_trans (fI _ _) h.n,fun s hs=>h.vs s (gu _ _ s hs)⟩
theorem FB {q : Nat} : ∀ l : List Need,(∀ x ∈ l,gV q x) → bH Need.wt l ≤ (10 + 6 * q) * l.length
  | [],_=>by simp [bH]
  | a :: r,h=>by
    have h1:=(h a List.mem_cons_self).wt;have h2:=FB r fun s hs=>h s (List.mem_cons_of_mem _ hs);have e : bH Need.wt (a :: r) = a.wt + bH Need.wt r:=(by simp [bH]);rw [e,List.length_cons,Nat.mul_add];omega
theorem Ni {q : Nat} {l : List Need} (h : ∀ x ∈ l,gV q x) : ∀ x ∈ fH l,gV q x:=fun x hx=>by
  have:=gu _ _ x hx;obtain ⟨y,hy,rfl⟩:=List.mem_map.1 this;exact (h y hy).norm
def Nj (q : Nat) (c : Nat) (A : Option Addr) (len cap : Nat) (z : Nat → Int) (w : World) (e : Ending) (w' : World) : Prop:=
  ∃ (x : Need) (us : List Value) (F : List Nat),gV q x ∧ e = .returned (.agg us.toArray) ∧ bq w' w.heap.size 2 us x.row F ∧ F.Nodup ∧ jJ w' c A len cap z ∧ w.grownBy w' (some c)
theorem mW {a a' : World} {b c : Nat} {o : Obj} (h : a.heap[b]? = some o) (hb : b ≠ c) (hg : a.grownBy a' (some c)) : a'.heap[b]? = some o:=
  (hg.block b (aX h) (fun e=>hb (by injection e))).trans h
theorem vN {w w' : World} {B c k : Nat} {e : TypeId} {v : Value} {n : Nat} {xs : List Value} (h : w.ownsRow B e k v n xs) (hB : c < B) (hg : w.grownBy w' (some c)) : w'.ownsRow B e k v n xs:=
  h.kept hg (by
    cases hv : v.ownBlock with
    | none=>exact .inl rfl
    | some q=>exact .inr (fun e=>by
        have:=(h.lt q hv).1;injection e with e;omega))
theorem FC {w w' : World} {c B f : Nat} {us : List Value} {ds : List C} {F : List Nat} (h : bq w B f us ds F) (hB : c < B) (hg : w.grownBy w' (some c)) : bq w' B f us ds F:=
  bq.kept (fun x hx=>hg.block x (h.range x hx).2 (fun e=>by have:=(h.range x hx).1; injection e with e; omega)) h
theorem xV (l : List ByteArray) (x : ByteArray) : aT l ++ [.string x] = aT (l ++ [x]):=by simp [aT]
theorem Qs (w : World) (s : ByteArray) (t : TypeId) : jI (w.alloc (.cells #[.string s] t)) (some ⟨w.heap.size,0,none⟩) 1 1 [.string s]:=by
  refine ⟨rfl,fun _=>⟨_,_,rfl,by simp,fun j u hu=>?_⟩⟩;rw [Nat.zero_add,cell_of_row _ _ _ _ _ _ (heap_alloc_new w _)];simpa using hu
structure Bb (w : World) (c : Nat) (A : Option Addr) (len cap : Nat) (z : Nat → Int) (b1 : Nat) (k : ByteArray) (op : Int) (a : World) : Prop where
  cur : jJ a c A len cap z
  grown : w.grownBy a (some c)
  zero : a.heap[w.heap.size]? = some (.cells #[.string ⟨#[]⟩,.int .i64 0,.slice none 0 0] 69 (0,0))
  mine : a.heap[b1]? = some (.cells #[.string k,.int .i64 op,.slice none 0 0] 69 (0,0))
theorem Bb.turn {w a b : World} {c : Nat} {A : Option Addr} {len cap : Nat} {z : Nat → Int} {b1 : Nat} {k : ByteArray} {op : Int} (h : Bb w c A len cap z b1 k op a) (hcw : c < w.heap.size) (hb1 : c < b1) (hc : jJ b c A len cap z) (hg : a.grownBy b (some c)) : Bb w c A len cap z b1 k op b:=
  ⟨hc,aA h.grown hg,mW h.zero (by omega) hg,mW h.mine (by omega) hg⟩
theorem Bb.below {w a b : World} {c : Nat} {A : Option Addr} {len cap : Nat} {z : Nat → Int} {b1 B : Nat} {k : ByteArray} {op : Int} (h : Bb w c A len cap z b1 k op a) (hcw : c < w.heap.size) (hB : w.heap.size < B) (hb1 : b1 < B) (hb : Below B a b) : Bb w c A len cap z b1 k op b:=
  ⟨h.cur.below hb (by omega),aK h.grown (hb.mono (by omega)),(hb.block _ hB).trans h.zero,(hb.block _ hb1).trans h.mine⟩
theorem Bb.done {w a : World} {c : Nat} {A : Option Addr} {len cap : Nat} {z : Nat → Int} {b1 : Nat} {k : ByteArray} {op : Int} {q : Nat} {vs : List ByteArray} {v' : Value} {F : List Nat} {B : Nat} (h : Bb w c A len cap z b1 k op a) (hcw : c < w.heap.size) (hb : w.heap.size < b1) (ht : gV q ⟨k,op,vs⟩) (hB : b1 < B)
    (ho : Own a B 2 v' (.sl 1 vs.length (vs.flatMap Str.row)) F) (hn : F.Nodup) :
    Nj q c A len cap z w (.returned (.agg #[.string k,.int .i64 op,v'])) ((a.setCell ⟨b1,2,none⟩ v').setRow w.heap.size #[.string k,.int .i64 op,v']):=by
  have hwf:=ht.wf;have o1:=Own.jU ho (o:=2) (u:=v') hB;have o2:=Own.gH o1 (c:=#[.string k,.int .i64 op,v']) (show w.heap.size < B by omega);obtain ⟨G,tZ,xK,_⟩:=Need.owned (x:=⟨k,op,vs⟩) (f:=1) hwf (o2.lower (B':=w.heap.size) (by omega)) hn;have hb2 : Below w.heap.size a ((a.setCell ⟨b1,2,none⟩ v').setRow w.heap.size #[.string k,.int .i64 op,v']):=ay (((Below.refl w.heap.size a).setCell (by show w.heap.size ≤ b1; omega) _)) (Nat.le_refl _) _;exact ⟨_,_,G,ht,rfl,tZ,xK,h.cur.below hb2 hcw,aK h.grown hb2⟩
set_option maxRecDepth 1000000 in
set_option maxHeartbeats 8000000 in
theorem FD (c : Nat) (A : Option Addr) (len cap : Nat) (z : Nat → Int) (w : World) (hc : jJ w c A len cap z) :
    Calls Tryz.prog 190 #[.pointer (some ⟨c,0,none⟩)] w (Nj 3 c A len cap z w):=by
  obtain ⟨i1,hi1,hy0,hy1,hy2⟩:=info_parts TryzinfoStrV;have aL:=hc.lt;obtain ⟨W,hW⟩ : ∃ W,W = w.alloc (.cells #[.string ⟨#[]⟩,.int .i64 0,.slice none 0 0] 69):=⟨_,rfl⟩;have h0 : W.heap[w.heap.size]? = some (.cells #[.string ⟨#[]⟩,.int .i64 0,.slice none 0 0] 69 (0,0)):=(by rw [hW]; exact heap_alloc_new w _);have HK:=Lib.hid (mO c A len cap z W (by rw [hW]; exact dD hc _));have Wl:=Lib.hid (show w.grownBy W (some c) by rw [hW]; exact bX _ _ _);have H0:=Lib.hid h0;have HW:=Lib.hid hW;clear hc h0 hW;go_enter Tryz.func190,Tryz.ntmps190;go_wp2_with fail;rw [← HW.out];go_wp2_with fail;refine HK.out.mono ?_;rintro e w1 ⟨k,hk,rfl,hc1,hg1⟩;have HB:=Lib.hid (bM c A len cap z 4 w1 hc1 (by decide) (by decide));have H01:=Lib.hid (mW H0.out (by omega) hg1);have PG:=Lib.hid (aA Wl.out hg1);clear HK hc1 hg1 H0 Wl HW;go_wp2_with fail;refine HB.out.mono ?_;rintro e w2 ⟨x,hx,rfl,hc2,hg2⟩;have H02:=Lib.hid (mW H01.out (by omega) hg2);have Hg2:=Lib.hid (aA PG.out hg2);have hwx : IntKind.i64.wrap (1 + x) = 1 + x:=IntWalk.i64_in _ (by omega);obtain ⟨op,hop⟩ : ∃ op,1 + x = op:=⟨_,rfl⟩;rw [hop] at hwx;have ho1 : 1 ≤ op:=(by omega);have Wm : op ≤ 4:=(by omega);obtain ⟨X,hX⟩ : ∃ X,X = w2.alloc (.cells #[.string k,.int .i64 op,.slice none 0 0] 69):=⟨_,rfl⟩;have hg3 : w.heap.size < w2.heap.size:=aX H02.out;have hbX : Below w2.heap.size w2 X:=(by rw [hX]; exact (Below.refl _ _).alloc (Nat.le_refl _) _);have Jz : X.heap[w2.heap.size]? = some (.cells #[.string k,.int .i64 op,.slice none 0 0] 69 (0,0)):=(by rw [hX]; exact heap_alloc_new w2 _);have S3:=Lib.hid (show Bb w c A len cap z w2.heap.size k op X from ⟨hc2.below (hbX.mono hc2.lt) (Nat.lt_succ_self c),aK Hg2.out (hbX.mono Hg2.out.size),(hbX.block _ hg3).trans H02.out,Jz⟩);have Ym : X.heap.size = w2.heap.size + 1:=(by rw [hX]; simp);have Wn:=Lib.hid Ym;have HX:=Lib.hid hX;have p1 : X.cell? ⟨w2.heap.size,1,none⟩ = some (.int .i64 op):=(by rw [cell_of_row _ _ _ _ _ _ Jz]; rfl);have Hk:=Lib.hid (show k.size ≤ 10 by omega);clear hc2 hg2 HB H01 PG hbX hX Ym hk hx;by_cases h3 : op < 3
  case neg=>
    have HR:=Lib.hid (show Nj 3 c A len cap z w (.returned (.agg #[.string k,.int .i64 op,.slice none 0 0])) (X.setRow w.heap.size #[.string k,.int .i64 op,.slice none 0 0]) from by
      have ht : gV 3 ⟨k,op,[]⟩:=⟨Hk.out,by simp only; omega,by simp only; omega,by simp,fun s hs=>by cases hs⟩;obtain ⟨G,tZ,xK,_⟩:=Need.owned (x:=⟨k,op,[]⟩) (f:=1) (w:=X.setRow w.heap.size #[.string k,.int .i64 op,.slice none 0 0]) (B:=w.heap.size) ht.wf (nN _ _ 1 1) List.nodup_nil;have hb2 : Below w.heap.size X (X.setRow w.heap.size #[.string k,.int .i64 op,.slice none 0 0]):=ay (Below.refl _ _) (Nat.le_refl _) _;exact ⟨_,_,G,ht,rfl,tZ,xK,S3.out.cur.below hb2 aL,aK S3.out.grown hb2⟩)
    have dJ:=S3.out.mine;have bJ:=S3.out.zero;have tF:=Lib.hid bJ;clear S3 H02 Hg2 Jz;go_wp2_with (first | (rw [← HX.out]; refine wpList_load_row rfl 69 _ rfl w2.heap.size rfl 69 #[.string k,.int .i64 op,.slice none 0 0] (0,0) _ dJ Tryz.underlying69 rfl dP ?_) | (refine wpList_store_row rfl 69 _ _ rfl w.heap.size #[.string k,.int .i64 op,.slice none 0 0] rfl rfl 69 _ bJ dP rfl (by simp [Value.oneCell']) ?_) | fail);refine bodyPost_ret (v:=.agg #[.string k,.int .i64 op,.slice none 0 0]) ?_ rfl HR.out;exact results_cell_row rfl _ _ w.heap.size _ _ (0,0) _ rfl (aI tF.out) Tryz.underlying69 rfl dP
  have hown0 : (X.alloc (.cells #[] 9)).ownsRow X.heap.size 9 1 (.slice (some ⟨X.heap.size,0,none⟩) 0 0) 0 (aT []):=World.ownsRow_lit X #[] 0 (Nat.le_refl _) (by simp [maxLen]) rfl;have S4:=Lib.hid (S3.out.below aL (B:=X.heap.size) (by rw [Wn.out]; omega) (by rw [Wn.out]; omega) ((Below.refl _ _).alloc (Nat.le_refl _) (.cells #[] 9)));rw [show (some ⟨X.heap.size,0,none⟩ : Option Addr) = some ⟨w2.heap.size + 1,0,none⟩ by rw [Wn.out]] at hown0;have JA:=Lib.hid hown0;have Yn : w2.heap.size < X.heap.size:=(by rw [Wn.out]; omega);clear hown0 Jz H02 Hg2 S3;go_wp2_with fail;rw [← HX.out];go_wp2_with fail
  go_loopw [4,5] (fun vo i wr=>∃ (j : Nat) (vs : List ByteArray),j ≤ 3 ∧ i = .int .i64 j ∧ Hid (∀ s ∈ vs,s.size ≤ 5) ∧ Hid (vs.length = j) ∧ wr.ownsRow X.heap.size 9 1 vo j (aT vs) ∧ Bb w c A len cap z w2.heap.size k op wr ∧ X.heap.size ≤ wr.heap.size) (fun _ i _=>3 - (intOf i).toNat)
  case atStart=>exact ⟨0,[],by omega,rfl,(fun s hs=>by cases hs),rfl,JA.out,S4.out,by simp⟩
  case round=>
    clear JA S4 p1;obtain ⟨j,vs,hj,rfl,hvs,hvl,hown,hst,hsz⟩:=hrel;obtain ⟨Av,cv,rfl⟩:=aW hown;have HB:=Lib.hid (bM c A len cap z 3 wr hst.cur (by decide) (by decide));have BU:=Lib.hid hst;have dY:=Lib.hid hown;have hcX : c < X.heap.size:=(by omega);clear hst hown;go_wp2_with fail;refine HB.out.mono ?_;rintro e w4 ⟨y,hy,rfl,hc4,hg4⟩;have S4:=Lib.hid (BU.out.turn aL (by omega) hc4 hg4);have JB:=Lib.hid (vN dY.out hcX hg4);have Qt:=Lib.hid (Nat.le_trans hsz hg4.size);have Eu : IntKind.i64.wrap (1 + y) = 1 + y:=IntWalk.i64_in _ (by omega);clear hc4 hg4 HB BU dY hsz;by_cases hlt : (j : Int) < 1 + y
    · have hj2 : j < 3:=(by omega);have HV:=Lib.hid (mP c A len cap z w4 S4.out.cur);go_wp2_with fail;refine HV.out.mono ?_;rintro e w5 ⟨t,ht,rfl,mH,hg5⟩;have S5:=Lib.hid (S4.out.turn aL (by omega) mH hg5);have kT:=Lib.hid (vN JB.out hcX hg5);have hsz5:=Nat.le_trans Qt.out hg5.size;have qP:=Lib.hid (Qs w5 t 9);clear mH hg5 HV S4 JB Qt;go_wp2_with (first | (at_builtin; refine aB rfl (.tmp 23) (.tmp 26) 67 rfl X.heap.size 9 i1 _ 1 16 Tryz.underlying67 hi1 hy0 hy1 hy2 rfl (by decide) _ j (aT vs) rfl (own_below' kT.out ((Below.refl _ _).alloc (Nat.le_refl _) _)) (some ⟨w5.heap.size,0,none⟩) 1 1 [.string t] rfl qP.out (by intro u hu; simp at hu; subst hu; rfl) (by unfold maxLen; omega) (by omega) (by simp; omega) ?_) | fail);intro v7 w7 gT gM ig;rw [xV] at gT;have nP : Below X.heap.size w5 w7:=Below.grown ((Below.refl X.heap.size w5).alloc hsz5 _) gM (by simp; omega) (fun b hb=>(kT.out.lt b hb).1);have S7:=Lib.hid (S5.out.below aL (B:=X.heap.size) (by omega) Yn nP);have jW:=Lib.hid gT;have abp:=Lib.hid (Nat.le_trans hsz5 nP.size)
      have HT:=Lib.hid (show ∀ s ∈ vs ++ [t],s.size ≤ 5 from fun s hs=>by
        rcases List.mem_append.1 hs with hs | hs
        · exact hvs.out s hs
        · rw [List.mem_singleton] at hs; subst hs; omega)
      have HL:=Lib.hid (show (vs ++ [t]).length = j + 1 by rw [List.length_append,hvl.out]; rfl);clear gT gM ig nP S5 kT hsz5 qP;go_wp2_with fail
      go_roundw
      case rel=>exact ⟨j + 1,vs ++ [t],by omega,by go_num,HT.out,HL.out,jW.out,S7.out,abp.out⟩
      case measure=>simp [intOf]; omega
    · have Wo:=hvl.out;have Et : ∀ s ∈ vs,s.size ≤ maxLen:=fun s hs=>by have:=hvs.out s hs; unfold maxLen; omega
      have nY:=JB.out;rw [← Wo] at nY;obtain ⟨F4,Wm,_,_⟩:=(qU (f:=0) nY Et).own;rw [← Str.flat] at Wm;have HVs:=Lib.hid (Cj vs 2 (.slice Av vs.length cv) w4 Wm.lies (by omega));rw [Wo] at HVs;have HT:=Lib.hid (show gV 3 ⟨k,op,aU aJ vs⟩ from ⟨Hk.out,by simp only; omega,by simp only; omega,by have:=fI aJ vs; simp only; omega,fun s hs=>hvs.out s (gu _ _ s hs)⟩);have Hsz:=Lib.hid Qt.out;clear Wo Et nY Wm JB Qt hvs hvl;generalize aU aJ vs = ds at HVs HT;go_wp2_with fail;refine HVs.out.mono ?_;rintro e w6 ⟨v6,rfl,Nk,hb6⟩;have abq:=Hsz.out;have S6:=Lib.hid (S4.out.below aL (B:=X.heap.size) (by omega) Yn (hb6.mono abq));obtain ⟨B6,d6,rfl⟩:=Nk.eD;obtain ⟨F6,XH,XI,_⟩:=Nk.own;have HR:=Lib.hid (S6.out.done aL (q:=3) (vs:=ds) (v':=.slice B6 ds.length d6) (F:=F6) (B:=w4.heap.size) (by omega) HT.out (by omega) XH XI);have h22:=S6.out.mine;have p2 : w6.cell? ⟨w2.heap.size,2,none⟩ = some (.slice none 0 0):=(by rw [cell_of_row _ _ 2 _ _ _ h22]; rfl);have f2:=frozen_of_row w6 _ 2 _ _ h22;have dJ : (w6.setCell ⟨w2.heap.size,2,none⟩ (.slice B6 ds.length d6)).heap[w2.heap.size]? = some (.cells #[.string k,.int .i64 op,.slice B6 ds.length d6] 69 (0,0)):=heap_setCell_same _ _ _ _ _ _ h22;have bJ : (w6.setCell ⟨w2.heap.size,2,none⟩ (.slice B6 ds.length d6)).heap[w.heap.size]? = some (.cells #[.string ⟨#[]⟩,.int .i64 0,.slice none 0 0] 69 (0,0)):=(Below.heap_setCell _ _ _ _ (by show w.heap.size ≠ w2.heap.size; omega)).trans S6.out.zero;have tF:=Lib.hid bJ;clear Nk XH XI hb6 S6 S4 HVs HT h22;generalize hz : w6.setCell ⟨w2.heap.size,2,none⟩ (.slice B6 ds.length d6) = z6 at *;go_wp2_with (first | (refine wpList_load_row rfl 69 _ rfl w2.heap.size rfl 69 #[.string k,.int .i64 op,.slice B6 ds.length d6] (0,0) _ dJ Tryz.underlying69 rfl dP ?_) | (refine wpList_store_row rfl 69 _ _ rfl w.heap.size #[.string k,.int .i64 op,.slice B6 ds.length d6] rfl rfl 69 _ bJ dP rfl (by simp [Value.oneCell']) ?_) | fail);refine bodyPost_ret (v:=.agg #[.string k,.int .i64 op,.slice B6 ds.length d6]) ?_ rfl HR.out;exact results_cell_row rfl _ _ w.heap.size _ _ (0,0) _ rfl (aI tF.out) Tryz.underlying69 rfl dP
end draw
section
open Go Go.RowKit
theorem Ih {w : World} {B f size n : Nat} {v : Value} {cells : List C} {F : List Nat} (t0 : TypeId) (h : Own w B (f + 1) v (.sl size n cells) F) (hn : F.Nodup) : ∃ e,dx w B f e size v n cells:=by
  obtain ⟨hl,⟨rfl,h0,rfl⟩ | ⟨g,c,cur,e,Fs,rfl,h1,h2,h3,h4,hz,rfl,h5,h6⟩⟩:=h
  · subst h0;have : cells = []:=List.eq_nil_of_length_eq_zero (by simpa using hl);subst this;exact ⟨t0,dx.nil w B f t0 size⟩
  · have hle : n * size ≤ c * size:=Nat.mul_le_mul_right _ h1
    have hlen : (cur.toList.take (n * size)).length = n * size:=by
      rw [List.length_take,Array.length_toList];omega
    obtain ⟨n1,n2⟩:=List.nodup_cons.1 hn;refine ⟨e,cur.toList.take (n * size),Fs.flatten,⟨hlen,.inr ⟨g,c,cur,rfl,h3,h4,h1,h2,hz,rfl⟩⟩,hl,⟨by rw [hlen,hl],Fs,h5,rfl,fun m u d Fm hu hd hF=>?_⟩,n2,fun x hx e=>?_⟩
    · obtain ⟨u',hu',ho⟩:=h6 m d Fm hd hF;have hm : m < n * size:=(by rw [← hl]; exact (List.getElem?_eq_some_iff.1 hd).1);rw [List.getElem?_take_of_lt hm,Array.getElem?_toList,hu'] at hu;injection hu with hu;exact hu ▸ ho
    · simp only [Value.ownBlock,Option.some.injEq] at e;exact n1 (e ▸ hx)
end
namespace draw
open Go.ChangeShapes Go.WideShapes Go.ChangeAt Go.RowKit ty lab need dedup
theorem FE {w w' : World} {c B f : Nat} {v : Value} {d : C} {F : List Nat} (h : Own w B f v d F) (hB : c < B) (hg : w.grownBy w' (some c)) : Own w' B f v d F:=
  h.kept fun x hx=>hg.block x (h.range x hx).2 (fun e=>by have:=(h.range x hx).1; injection e with e; omega)
def Nl (P : List Need → Prop) (c : Nat) (A : Option Addr) (len cap : Nat) (z : Nat → Int) (w : World) (e : Ending) (w' : World) : Prop:=
  ∃ (l : List Need) (v : Value) (f : Nat) (F : List Nat),P l ∧ e = .returned v ∧ Own w' w.heap.size (f + 1) v (.sl 3 l.length (l.flatMap Need.row)) F ∧ F.Nodup ∧ jJ w' c A len cap z ∧ w.grownBy w' (some c)
structure FH (w : World) (c : Nat) (A : Option Addr) (len cap : Nat) (z : Nat → Int) (v : Value) (l : List Need) (f : Nat) (F : List Nat) (a : World) : Prop where
  cur : jJ a c A len cap z
  grown : w.grownBy a (some c)
  own : Own a w.heap.size (f + 1) v (.sl 3 l.length (l.flatMap Need.row)) F
  nd : F.Nodup
theorem FH.turn {w a b : World} {c : Nat} {A : Option Addr} {len cap : Nat} {z : Nat → Int} {v : Value} {l : List Need} {f : Nat} {F : List Nat} (h : FH w c A len cap z v l f F a) (hcw : c < w.heap.size) (hc : jJ b c A len cap z) (hg : a.grownBy b (some c)) : FH w c A len cap z v l f F b:=
  ⟨hc,aA h.grown hg,FE h.own hcw hg,h.nd⟩
theorem FH.below {w a b : World} {c : Nat} {A : Option Addr} {len cap : Nat} {z : Nat → Int} {v : Value} {l : List Need} {f : Nat} {F : List Nat} (h : FH w c A len cap z v l f F a) (hcw : c < w.heap.size) (hb : Below a.heap.size a b) : FH w c A len cap z v l f F b:=
  ⟨h.cur.below (hb.mono h.grown.size) hcw,aK h.grown (hb.mono h.grown.size),h.own.below hb,h.nd⟩
theorem FH.got {w a : World} {c : Nat} {A : Option Addr} {len cap : Nat} {z : Nat → Int} {v : Value} {l : List Need} {f : Nat} {F : List Nat} {P : List Need → Prop} (h : FH w c A len cap z v l f F a) (hP : P l) : Nl P c A len cap z w (.returned v) a:=
  ⟨l,v,f,F,hP,rfl,h.own,h.nd,h.cur,h.grown⟩
def iY (m q : Nat) (l : List Need) : Prop:=l.length ≤ m ∧ ∀ x ∈ l,gV q x
theorem iY.snoc {m q : Nat} {l : List Need} {x : Need} (h : iY m q l) (hx : gV q x) : iY (m + 1) q (l ++ [x]):=⟨by have:=h.1; simp; omega,fun y hy=>by
  rcases List.mem_append.1 hy with hy | hy
  · exact h.2 y hy
  · rw [List.mem_singleton] at hy; subst hy; exact hx⟩
theorem iY.more {m q m' q' : Nat} {l : List Need} (h : iY m q l) (hm : m ≤ m') (hq : q ≤ q') : iY m' q' l:=⟨Nat.le_trans h.1 hm,fun x hx=>(h.2 x hx).more hq⟩
theorem iY.wts {m q : Nat} {l : List Need} (h : iY m q l) (hm : m ≤ 100) (hq : q ≤ 100) : l.length + bH Need.wt l ≤ 1048576:=by
  have h1:=FB l h.2;have h2:=h.1;have h3 : (10 + 6 * q) * l.length ≤ 610 * 100:=Nat.mul_le_mul (by omega) (by omega);omega
theorem FI {m q : Nat} {l : List Need} (h : iY m q l) (h2 : (iF l).2 = true) : iY 4 q (iF l).1:=by
  by_cases hc : l.length ≤ 40 ∧ lC l l.length ∧ mF (fH l)
  · rw [j5 hc];exact ⟨hc.2.2.1,Ni h.2⟩
  · rw [kI hc] at h2;cases h2
theorem us3 {w : World} {B f : Nat} {us : List Value} {x : Need} {F : List Nat} (h : bq w B f us x.row F) : ∃ u0 u1 u2,us = [u0,u1,u2]:=vJ (by rw [h.1,Need.au])
end draw
namespace ty
open Go.ChangeShapes Go.WideShapes Go.ChangeAt Go.RowKit
theorem TryzinfoNeed : (Tryz.prog.info? 69).map (fun i=>(i.zero,i.size,i.bytes)) = some (some (.agg #[.string ⟨#[]⟩,.int .i64 0,.slice none 0 0]),3,48):=by kernel_rfl
end ty
namespace need
open Go.ChangeShapes Go.WideShapes Go.ChangeAt Go.RowKit ty lab dedup
theorem o9 {w : World} {b : Nat} {us : List Value} {e : TypeId} (hl : us.length = 3) (h : w.heap[b]? = some (.cells us.toArray e (0,0))) : jI w (some ⟨b,0,none⟩) 1 3 us:=by
  refine ⟨by rw [hl],fun _=>⟨b,0,rfl,aX h,fun j u hu=>?_⟩⟩;rw [Nat.zero_add,cell_of_row _ _ _ _ _ _ h];simpa using hu
set_option maxRecDepth 1000000 in
set_option maxHeartbeats 8000000 in
theorem mX (l : List Need) (f : Nat) (v : Value) (w : World) (h : bf w f v (.sl 3 l.length (l.flatMap Need.row))) (hn : l.length ≤ 1048576) (hv : ∀ i (h : i < l.length),l[i].values.length ≤ 1048576) :
    Calls Tryz.prog 32 #[v] w fun e w'=>∃ v',e = .returned v' ∧ dx w' w.heap.size 2 69 3 v' l.length (l.flatMap Need.row) ∧ Below w.heap.size w w':=by
  obtain ⟨A,c,rfl,hc1,hc2,f',rfl,hk⟩:=bD Need.au h;unfold maxLen at hc2;obtain ⟨i0,hi,hz0,hz1,hz2⟩:=info_parts TryzinfoNeed;obtain ⟨i1,hi1,hy0,hy1,hy2⟩:=info_parts TryzinfoStrV;obtain ⟨w1,hw1⟩ : ∃ w1,w1 = w.alloc (.cells #[] 69):=⟨_,rfl⟩;have hb1 : Below w.heap.size w w1:=(by rw [hw1]; exact (Below.refl _ _).alloc (Nat.le_refl _) _);have hown1 : w1.ownsRow w.heap.size 69 3 (.slice (some ⟨w.heap.size,0,none⟩) 0 0) 0 []:=(by rw [hw1]; exact World.ownsRow_lit w #[] 0 (Nat.le_refl _) (by simp [maxLen]) rfl);have eT:=Lib.hid hw1;have jV:=Lib.hid (dx.GV (f:=2) hown1);have Hb1:=Lib.hid hb1;have Hk:=Lib.hid hk;have Hv:=Lib.hid hv;clear h hk hv hw1 hown1 hb1;go_enter Tryz.func32,Tryz.ntmps32;go_wp2_with fail;rw [← eT.out]
  go_loopw [3,4] (fun vo i wr=>∃ j : Nat,j ≤ l.length ∧ i = .int .i64 j ∧ dx wr w.heap.size 2 69 3 vo j ((l.take j).flatMap Need.row) ∧ Below w.heap.size w wr) (fun _ i _=>l.length - (intOf i).toNat)
  case atStart=>exact ⟨0,Nat.zero_le _,rfl,by simpa using jV.out,Hb1.out⟩
  case round=>
    clear jV eT Hb1;obtain ⟨wo,rfl⟩ : ∃ wo,wo = wr:=⟨_,rfl⟩;obtain ⟨j,hj,rfl,hrow,hbel⟩:=hrel;obtain ⟨B0,d0,rfl⟩:=hrow.eD;obtain ⟨xs,F,hr0,hc0,ho0,Qu,hne0⟩:=hrow;by_cases hlt : j < l.length
    · obtain ⟨g,o,rfl,hg,us0,kN,hc,hls⟩:=(Hk.out.below hbel).get hlt;have Wp:=Hv.out j hlt;obtain ⟨A2,c2,rfl,hwf,k2,m2,l2⟩:=Need.opened hls;obtain ⟨A2',c2',hA2,_,_,r2,ks2⟩:=Str.opened l2;injection hA2 with a1 _ a3;subst a1 a3;have q0 : wo.cell? ⟨g,o + j * 3,none⟩ = some (.string l[j].key):=hc 0 _ rfl;have q1 : wo.cell? ⟨g,o + j * 3 + 1,none⟩ = some (.int .i64 l[j].op):=hc 1 _ rfl;have q2 : wo.cell? ⟨g,o + j * 3 + 2,none⟩ = some (.slice A2 l[j].values.length c2):=hc 2 _ rfl
      have hr1 : (l.take (j + 1)).flatMap Need.row = (l.take j).flatMap Need.row ++ l[j].row:=by
        rw [List.take_succ_eq_append_getElem hlt,List.flatMap_append]; simp
      have TG:=Lib.hid hr1;have eU:=Lib.hid hwf;have Yl:=Lib.hid ks2;have hrd:=KD r2;clear hr1 hls kN hc hg hwf l2 r2 ks2;obtain ⟨x,hx⟩ : ∃ x,x = l[j]:=⟨_,rfl⟩;rw [← hx] at Wp k2 q0 q1 q2 TG eU Yl hrd;clear hx;obtain ⟨xk,xo,xv⟩:=x;simp only at Wp k2 q0 q1 q2 hrd Yl;obtain ⟨w2,hw2⟩ : ∃ w2,w2 = wo.alloc (.cells #[.string xk,.int .i64 xo,.slice A2 xv.length c2] 69):=⟨_,rfl⟩;have hb2 : Below wo.heap.size wo w2:=(by rw [hw2]; exact (Below.refl _ _).alloc (Nat.le_refl _) _);have hs2 : w2.heap.size = wo.heap.size + 1:=(by rw [hw2]; simp);have h2 : w2.heap[wo.heap.size]? = some (.cells #[.string xk,.int .i64 xo,.slice A2 xv.length c2] 69 (0,0)):=(by rw [hw2]; exact heap_alloc_new wo _);obtain ⟨w3,hw3⟩ : ∃ w3,w3 = w2.alloc (.cells #[] 9):=⟨_,rfl⟩;have hb3 : Below w2.heap.size w2 w3:=(by rw [hw3]; exact (Below.refl _ _).alloc (Nat.le_refl _) _);have hown3 : w3.ownsRow w2.heap.size 9 1 (.slice (some ⟨w2.heap.size,0,none⟩) 0 0) 0 []:=(by rw [hw3]; exact World.ownsRow_lit w2 #[] 0 (Nat.le_refl _) (by simp [maxLen]) rfl);have h3:=eX hb3 (aX h2) h2;have p3 : w3.cell? ⟨wo.heap.size,2,none⟩ = some (.slice A2 xv.length c2):=(by rw [cell_of_row _ _ 2 _ _ _ h3]; rfl);rw [hw3,hw2] at p3;rw [hs2] at hown3;have Wq : Below wo.heap.size wo w3:=hb2.trans (hb3.mono (by omega));have qP:=Lib.hid (hrd.below Wq);have ku:=Lib.hid hown3;have H3:=Lib.hid h3;have Hb3:=Lib.hid Wq;have G7:=Lib.hid (show w3 = (wo.alloc (.cells #[.string xk,.int .i64 xo,.slice A2 xv.length c2] 69)).alloc (.cells #[] 9) by rw [hw3,hw2]);have XJ:=Lib.hid (show wo.heap.size + 1 < w3.heap.size by have:=(hown3.lt _ rfl).2; exact this);have Hr0:=Lib.hid hr0;have ML:=Lib.hid ho0;have bg:=Lib.hid hbel;have JC : (#[Value.string xk,.int .i64 xo,.slice A2 xv.length c2]).all (·.oneCell') = true:=(by simp [Value.oneCell']);clear hb2 hs2 h2 hw2 hb3 hown3 h3 hw3 Wq hrd hr0 ho0 hbel;go_wp2_with (first | (refine wpList_store_row rfl 69 _ _ rfl wo.heap.size #[.string xk,.int .i64 xo,.slice A2 xv.length c2] rfl rfl 69 _ (heap_alloc_new wo _) dP rfl JC ?_; rw [World.setRow_alloc_new]) | (at_builtin; rw [← G7.out]; refine aB rfl (.tmp 17) (.tmp 19) 67 rfl (wo.heap.size + 1) 9 i1 _ 1 16 Tryz.underlying67 hi1 hy0 hy1 hy2 rfl (by decide) _ 0 [] rfl ku.out A2 xv.length c2 (aT xv) rfl qP.out (nW _) (by unfold maxLen; omega) (by omega) (by have:=XJ.out; omega) ?_) | fail);intro v4 w4 nY hg4 Qv;obtain ⟨B4,d4,rfl⟩:=aW nY;have hs3:=XJ.out;have hb4 : Below (wo.heap.size + 1) w3 w4:=(Below.refl (wo.heap.size + 1) w3).grown hg4 (Nat.le_of_lt hs3) (fun b hb=>by simp [Value.ownBlock] at hb; omega);have h4:=eX hb4 (Nat.lt_succ_self _) H3.out;have p4 : w4.cell? ⟨wo.heap.size,2,none⟩ = some (.slice A2 xv.length c2):=(by rw [cell_of_row _ _ 2 _ _ _ h4]; rfl);have f4:=frozen_of_row w4 _ 2 _ _ h4;obtain ⟨G,o4,n4,g4⟩:=(qU (f:=0) nY Yl.out).own;obtain ⟨w5,hz⟩ : ∃ w5,w4.setCell ⟨wo.heap.size,2,none⟩ (.slice B4 xv.length d4) = w5:=⟨_,rfl⟩;have h5 : w5.heap[wo.heap.size]? = some (.cells #[.string xk,.int .i64 xo,.slice B4 xv.length d4] 69 (0,0)):=(by rw [← hz]; exact heap_setCell_same _ _ _ _ _ _ h4);have Bc : Below wo.heap.size wo w5:=(by rw [← hz]; exact (Hb3.out.trans (hb4.mono (Nat.le_succ _))).setCell (Nat.le_refl _) _);have o5 : Own w5 (wo.heap.size + 1) 2 (.slice B4 xv.length d4) (.sl 1 xv.length (xv.flatMap Str.row)) G:=(by rw [← hz,Str.flat]; exact Own.jU o4 (Nat.lt_succ_self _));obtain ⟨w6,Ev⟩ : ∃ w6,w6 = w5.alloc (.cells #[.string xk,.int .i64 xo,.slice B4 xv.length d4] 69):=⟨_,rfl⟩;have hb6 : Below w5.heap.size w5 w6:=(by rw [Ev]; exact (Below.refl _ _).alloc (Nat.le_refl _) _);have Nn:=ah Bc hb6 Bc.size;have hge : w.heap.size ≤ wo.heap.size:=bg.out.size;obtain ⟨G2,tZ,xK,hsub⟩:=Need.owned (x:=⟨xk,xo,xv⟩) (f:=1) eU.out ((o5.below hb6).lower (B':=w.heap.size) (by omega)) n4;have XK:=Lib.hid tZ;have HnG:=Lib.hid xK;have HgG:=Lib.hid (show ∀ y ∈ G2,wo.heap.size + 1 ≤ y from fun y hy=>(g4 y (hsub y hy)).1);have KF:=Lib.hid (o9 (us:=[.string xk,.int .i64 xo,.slice B4 xv.length d4]) rfl (show w6.heap[w5.heap.size]? = some (.cells #[.string xk,.int .i64 xo,.slice B4 xv.length d4] 69 (0,0)) by rw [Ev]; exact heap_alloc_new w5 _));have Hr6:=Lib.hid (own_below' Hr0.out Nn);have Ho6:=Lib.hid (ML.out.below Nn);have gN:=Lib.hid (show w.heap.size ≤ w6.heap.size from Nat.le_trans hge Nn.size);have l7:=Lib.hid (ah bg.out Nn bg.out.size);have Hw6:=Lib.hid Ev;have Hold:=Lib.hid (show ∀ y ∈ F,y < wo.heap.size from fun y hy=>(ML.out.range y hy).2);have JA:=Lib.hid (show ∀ k,(Value.slice B0 j d0).ownBlock = some k → k < wo.heap.size from fun k hk=>(Hr0.out.lt k hk).2);clear nY hg4 Qv hb4 h4 o4 n4 g4 Bc o5 Ev hb6 Nn tZ xK hsub hs3 q0 q1 q2;go_wp2_with (first | (refine wpList_load_row rfl 69 _ rfl wo.heap.size rfl 69 #[.string xk,.int .i64 xo,.slice B4 xv.length d4] (0,0) _ h5 Tryz.underlying69 rfl dP ?_) | (at_builtin; rw [← Hw6.out]; refine aB rfl (.tmp 22) (.tmp 24) 25 rfl w.heap.size 69 i0 _ 3 48 Tryz.underlying25 hi hz0 hz1 hz2 rfl (by decide) _ j xs rfl Hr6.out (some ⟨w5.heap.size,0,none⟩) 1 1 [.string xk,.int .i64 xo,.slice B4 xv.length d4] rfl KF.out (by intro u hu; simp at hu; rcases hu with rfl | rfl | rfl <;> rfl) (by unfold maxLen; omega) (by omega) gN.out ?_) | fail);intro v7 w7 gT gM ig;have XL:=Lib.hid (dx.grow hc0 Ho6.out Qu hne0 (Need.au _) XK.out HnG.out (fun y hy hyG=>by have h1:=Hold.out y hy; have h2:=HgG.out y hyG; omega) (fun y hyG hy=>by have h1:=JA.out y hy; have h2:=HgG.out y hyG; omega) gT gM ig);rw [← TG.out] at XL;have yC:=Lib.hid (l7.out.grown gM gN.out (fun b hb=>(Hr6.out.lt b hb).1));clear gT gM ig hc0 Qu hne0;go_wp2_with fail
      go_roundw
      case rel=>exact ⟨j + 1,by omega,by go_num,XL.out,yC.out⟩
      case measure=>simp [intOf]; omega
    · obtain rfl : j = l.length:=(by omega);rw [List.take_length] at hc0 ho0;have HR:=Lib.hid (show dx wo w.heap.size 2 69 3 (.slice B0 l.length d0) l.length (l.flatMap Need.row) from ⟨xs,F,hr0,hc0,ho0,Qu,hne0⟩);have bg:=Lib.hid hbel;clear hr0 hc0 ho0 Qu hne0 hbel;go_wp2_with fail;go_ret;exact ⟨_,rfl,HR.out,bg.out⟩
end need
end Go.Proofs.YtcfbkfmkjggcdaaGreatDoor
