/- Merged: ToHost DrawWd2 AppOwn DrawAnyL PtHost StrM TyNeed NeedM. -/
import Derived.Test.YtcfbkfmkjggcdaaGreatDoorGA9
import Derived.Test.YtcfbkfmkjggcdaaGreatDoorGA5
import Derived.Test.YtcfbkfmkjggcdaaGreatDoorRows
import Derived.ProofKit
import Derived.OpenShut
import Derived.Deep.WholeRow
import Derived.Test.YtcfbkfmkjggcdaaGreatDoorGA1
import Derived.Test.YtcfbkfmkjggcdaaGreatDoorGA4
import Derived.Test.YtcfbkfmkjggcdaaGreatDoorGA6
import Derived.Test.YtcfbkfmkjggcdaaGreatDoorGA7
import Derived.Test.YtcfbkfmkjggcdaaGreatDoorGA2
import Derived.Test.YtcfbkfmkjggcdaaGreatDoorGA0
import Derived.Test.YtcfbkfmkjggcdaaGreatDoorGA8
set_option linter.unusedVariables false
namespace Go.Proofs.YtcfbkfmkjggcdaaGreatDoor
namespace ty
open Go.ChangeShapes Go.WideShapes Go.ChangeAt Go.RowKit
theorem aV : (Tryz.prog.info? 32).map (·.size) = some 6:=by kernel_rfl
end ty
namespace draw
open Go.ChangeShapes Go.WideShapes Go.ChangeAt Go.RowKit
def zC (t1 t2 t3 t4 : ByteArray) : List ByteArray:=[⟨#[]⟩,⟨#[97]⟩,⟨#[45,97]⟩,⟨#[97,45]⟩,⟨#[97,45,98]⟩,⟨#[65]⟩,⟨#[97,95,98]⟩,⟨#[97,46,98]⟩,⟨#[97,47,98]⟩,⟨#[47,97]⟩,⟨#[97,32,98]⟩,⟨#[195,169]⟩,t1,t2,t3,t4,⟨#[57]⟩]
theorem Fb {t1 t2 t3 t4 : ByteArray} (h1 : t1.size = 20) (h2 : t2.size = 21) (h3 : t3.size = 30) (h4 : t4.size = 31) : ∀ x ∈ zC t1 t2 t3 t4,x.size ≤ 31:=by
  intro x hx;simp only [zC,List.mem_cons,List.not_mem_nil,or_false] at hx;rcases hx with rfl | rfl | rfl | rfl | rfl | rfl | rfl | rfl | rfl | rfl | rfl | rfl | rfl | rfl | rfl | rfl | rfl <;> first | omega | decide
set_option maxRecDepth 100000 in
set_option maxHeartbeats 4000000 in
theorem Cc (c : Nat) (A : Option Addr) (len cap : Nat) (z : Nat → Int) (w : World) (hc : jJ w c A len cap z) :
    Calls Tryz.prog 84 #[.pointer (some ⟨c,0,none⟩)] w (Ki (fun x=>x.size ≤ 31) c A len cap z w):=by
  have H1:=Lib.hid (fun w'=>pR 20 w' (by decide));have H2:=Lib.hid (fun w'=>pR 21 w' (by decide));have H3:=Lib.hid (fun w'=>y9 30 w' (by decide));have H4:=Lib.hid (fun w'=>y9 31 w' (by decide));have Hc:=Lib.hid hc;have hlt:=hc.lt;clear hc;go_enter Tryz.func84,Tryz.ntmps84;go_wp2_with fail;refine (H1.out _).mono ?_;rintro e w1 ⟨t1,h1,rfl,b1⟩;go_wp2_with fail;refine (H2.out _).mono ?_;rintro e w2 ⟨t2,h2,rfl,b2⟩;go_wp2_with fail;refine (H3.out _).mono ?_;rintro e w3 ⟨t3,h3,rfl,b3⟩;go_wp2_with fail;refine (H4.out _).mono ?_;rintro e w4 ⟨t4,h4,rfl,b4⟩;have B4 : Below w.heap.size w w4:=ah (ah (ah b1 b2 b1.size) b3 (ah b1 b2 b1.size).size) b4 (ah (ah b1 b2 b1.size) b3 (ah b1 b2 b1.size).size).size;have hc4:=Hc.out.below B4 hlt;have Hg:=Lib.hid (fun o : Obj=>draw.aK (World.grownBy.refl w (some c)) (B4.alloc B4.size o));have Hs:=Lib.hid (Fb h1 h2 h3 h4);have HP:=Lib.hid (jT c A len cap z w4.heap.size 17 (.slice (some ⟨w4.heap.size,0,none⟩) 17 17) (zC t1 t2 t3 t4) _ (dD hc4 (.cells (aT (zC t1 t2 t3 t4)).toArray 9)) (by decide) (by decide) rfl hc4.lt (World.ownsRow_lit w4 (aT (zC t1 t2 t3 t4)).toArray 17 (Nat.le_refl _) (by simp [maxLen]) rfl));clear b1 b2 b3 b4 B4 hc4 h1 h2 h3 h4 Hc;go_wp2_with fail;refine HP.out.mono ?_;rintro e w5 ⟨t,ht,rfl,mH,hg5⟩;have HR:=Lib.hid (show Ki (fun x=>x.size ≤ 31) c A len cap z w (.returned (.string t)) w5 from ⟨t,Hs.out t ht,rfl,mH,aA (Hg.out _) hg5⟩);clear mH hg5 ht;go_wp2_with fail;go_ret;exact HR.out
end draw
namespace ty
open Go Go.RowKit
theorem Ce : ∀ (l : List Label) (m : Nat) (d : C),(l.flatMap Label.row)[m]? = some d → ∃ s,d = .str s ∧ (lvals l)[m]? = some (.string s)
  | [],m,d,h=>by simp at h
  | x :: l,0,d,h=>by
    simp [Label.row] at h;exact ⟨x.key,h.symm,by simp [lvals,Label.cells]⟩
  | x :: l,1,d,h=>by
    simp [Label.row] at h;exact ⟨x.value,h.symm,by simp [lvals,Label.cells]⟩
  | x :: l,m + 2,d,h=>by
    have h2 : (l.flatMap Label.row)[m]? = some d:=by
      rw [List.flatMap_cons,List.getElem?_append_right (by simp [Label.row])] at h;simpa [Label.row] using h
    obtain ⟨s,hs,hv⟩:=Ce l m d h2;refine ⟨s,hs,?_⟩;unfold lvals at hv ⊢;rw [List.flatMap_cons,List.getElem?_append_right (by simp [Label.cells])];simpa [Label.cells] using hv
theorem Nc {w : World} {B f : Nat} {v : Value} {l : List Label} {F : List Nat} (t0 : TypeId) (h : Own w B (f + 1) v (.sl 2 l.length (l.flatMap Label.row)) F) : ∃ e,w.ownsRow B e 2 v l.length (lvals l):=by
  obtain ⟨hl,⟨rfl,hn,rfl⟩ | ⟨g,c,cur,e,Fs,rfl,h1,h2,h3,h4,hz,hF,h5,h6⟩⟩:=h
  · have : l = []:=List.eq_nil_of_length_eq_zero hn;subst this;exact ⟨t0,World.ownsRow_nil _ _ _ _⟩
  · refine ⟨e,fA l,.inr ⟨g,c,cur,rfl,h3,h4,h1,h2,hz,?_⟩⟩;refine List.ext_getElem? fun m=>?_;by_cases hm : m < l.length * 2
    · rw [List.getElem?_take_of_lt hm];have hd : m < (l.flatMap Label.row).length:=(by rw [hl]; exact hm);obtain ⟨u,hu,ho⟩:=h6 m _ _ (List.getElem?_eq_getElem hd) (List.getElem?_eq_getElem (by omega));obtain ⟨s,hs,hv⟩:=Ce l m _ (List.getElem?_eq_getElem hd);rw [hs] at ho;obtain ⟨rfl,_⟩:=ho.lies.str;rw [hv,Array.getElem?_toList];exact hu
    · rw [List.getElem?_eq_none (by rw [List.length_take]; omega),List.getElem?_eq_none (by rw [fA]; omega)]
end ty
namespace draw
open Go.ChangeShapes Go.WideShapes Go.ChangeAt Go.RowKit ty lab
theorem Tiny.more {m q : Nat} {l : List Label} (h : Tiny m l) (hq : m ≤ q) : Tiny q l:=fun x hx=>by
  have:=h x hx;exact ⟨by omega,by omega⟩
theorem Ig : ∀ i : Nat,i < 8 → (⟨(Lib.itoa (i : Int)).toArray⟩ : ByteArray).size ≤ 2:=by
  intro i hi;have : i = 0 ∨ i = 1 ∨ i = 2 ∨ i = 3 ∨ i = 4 ∨ i = 5 ∨ i = 6 ∨ i = 7:=(by omega);rcases this with rfl | rfl | rfl | rfl | rfl | rfl | rfl | rfl <;> (simp [Lib.itoa,Lib.decDigits,ByteArray.size])
structure St (w : World) (c : Nat) (A : Option Addr) (len cap : Nat) (z : Nat → Int) (e0 : TypeId) (v : Value) (l : List Label) (a : World) : Prop where
  cur : jJ a c A len cap z
  grown : w.grownBy a (some c)
  row : a.ownsRow w.heap.size e0 2 v l.length (lvals l)
theorem St.turn {w a b : World} {c : Nat} {A : Option Addr} {len cap : Nat} {z : Nat → Int} {e0 : TypeId} {v : Value} {l : List Label} (h : St w c A len cap z e0 v l a) (hcw : c < w.heap.size) (hc : jJ b c A len cap z) (hg : a.grownBy b (some c)) : St w c A len cap z e0 v l b:=
  ⟨hc,aA h.grown hg,Dz h.row hcw hg⟩
theorem St.below {w a b : World} {c : Nat} {A : Option Addr} {len cap : Nat} {z : Nat → Int} {e0 : TypeId} {v : Value} {l : List Label} (h : St w c A len cap z e0 v l a) (hcw : c < w.heap.size) (hb : Below a.heap.size a b) : St w c A len cap z e0 v l b:=
  ⟨h.cur.below (hb.mono h.grown.size) hcw,aK h.grown (hb.mono h.grown.size),own_below' h.row hb⟩
theorem St.alloc {w a : World} {c : Nat} {A : Option Addr} {len cap : Nat} {z : Nat → Int} {e0 : TypeId} {v : Value} {l : List Label} (h : St w c A len cap z e0 v l a) (hcw : c < w.heap.size) (o : Obj) : St w c A len cap z e0 v l (a.alloc o):=
  h.below hcw ((Below.refl _ _).alloc (Nat.le_refl _) o)
theorem St.more {w w5 w7 : World} {c : Nat} {e0 e1 : TypeId} {v v7 : Value} {l : List Label} {k y : ByteArray} {A : Option Addr} {len cap : Nat} {z : Nat → Int} {o : Obj} (h : St w c A len cap z e0 v l w5) (hcw : c < w.heap.size)
    (hown : w7.ownsRow w.heap.size e1 2 v7 (l.length + 1) (lvals l ++ [.string k,.string y])) (hg : (w5.alloc o).grownBy w7 v.ownBlock) : St w c A len cap z e1 v7 (l ++ [(⟨k,y⟩ : Label)]) w7:=by
  have nP : Below w.heap.size w5 w7:=Below.grown ((Below.refl w.heap.size w5).alloc h.grown.size o) hg (by have:=h.grown.size; simp; omega) (fun b hb=>(h.row.lt b hb).1);exact ⟨h.cur.below nP hcw,aK h.grown nP,by rw [je,wT,List.length_append]; exact hown⟩
theorem St.got {w a : World} {c : Nat} {A : Option Addr} {len cap : Nat} {z : Nat → Int} {e0 : TypeId} {v : Value} {l : List Label} {P : List Label → Prop} (h : St w c A len cap z e0 v l a) (hP : P l) (ht : Tiny 31 l) : VT P c A len cap z w (.returned v) a:=by
  obtain ⟨F,ho,hn,_⟩:=gQ h.row (ht.wf (by decide));exact ⟨l,v,1,F,hP,rfl,ho,hn,h.cur,h.grown⟩
def Fe (a b : ByteArray) : List ByteArray:=[⟨#[]⟩,⟨#[45,97]⟩,⟨#[122,122,47]⟩,a,b,⟨#[195,169]⟩]
def zD (a b : ByteArray) : List ByteArray:=[⟨#[120]⟩,⟨#[97,47,98]⟩,a,b]
theorem Nf {a b : ByteArray} (ha : a.size ≤ 31) (hb : b.size ≤ 31) : ∀ x ∈ Fe a b,x.size ≤ 31:=by
  intro x hx;simp only [Fe,List.mem_cons,List.not_mem_nil,or_false] at hx;rcases hx with rfl | rfl | rfl | rfl | rfl | rfl
  · decide
  · decide
  · decide
  · exact ha
  · exact hb
  · decide
theorem Ng {a b : ByteArray} (ha : a.size ≤ 31) (hb : b.size ≤ 31) : ∀ x ∈ zD a b,x.size ≤ 31:=by
  intro x hx;simp only [zD,List.mem_cons,List.not_mem_nil,or_false] at hx;rcases hx with rfl | rfl | rfl | rfl
  · decide
  · decide
  · exact ha
  · exact hb
set_option maxRecDepth 1000000 in
set_option maxHeartbeats 8000000 in
theorem Jv (c : Nat) (A : Option Addr) (len cap : Nat) (z : Nat → Int) (w : World) (hc : jJ w c A len cap z) :
    Calls Tryz.prog 85 #[.pointer (some ⟨c,0,none⟩)] w (VT (fun l=>l.length ≤ 12 ∧ Tiny 31 l) c A len cap z w):=by
  obtain ⟨i0,hi,hz0,hz1,hz2⟩:=info_parts TryzinfoLab;have aL:=hc.lt;have HL:=Lib.hid (zn c A len cap z w hc);clear hc;go_enter Tryz.func85,Tryz.ntmps85;go_wp2_with fail;refine HL.out.mono ?_;rintro e w1 ⟨l,v,f,F,⟨PK,jX⟩,rfl,ho,hnd,hc1,hg1⟩;obtain ⟨e0,hrow⟩:=Nc 65 ho;obtain ⟨Ao,co,rfl⟩:=aW hrow;have S1:=Lib.hid (⟨hc1,hg1,hrow⟩ : St w c A len cap z e0 (.slice Ao l.length co) l w1);have HT:=Lib.hid (jX.more (q:=31) (by decide));have HB:=Lib.hid (bM c A len cap z 8 w1 hc1 (by decide) (by decide));clear HL ho hnd hc1 hg1 hrow jX;go_wp2_with fail;refine HB.out.mono ?_;rintro e w2 ⟨x,hx,rfl,hc2,hg2⟩;have S2:=Lib.hid (S1.out.turn aL hc2 hg2);clear HB S1 hg2;by_cases h0 : x = 0
  · subst h0;have HK:=Lib.hid (mO c A len cap z w2 hc2);clear hc2 hx;go_wp2_with fail;refine HK.out.mono ?_;rintro e w3 ⟨k,hk,rfl,hc3,hg3⟩;have HV:=Lib.hid (mP c A len cap z w3 hc3);have S3:=Lib.hid (S2.out.turn aL hc3 hg3);clear HK S2 hc3 hg3;go_wp2_with fail;refine HV.out.mono ?_;rintro e w4 ⟨y,hy,rfl,hc4,hg4⟩;have S4:=Lib.hid (S3.out.turn aL hc4 hg4);have hs4:=S4.out.grown.size;clear HV S3 hc4 hg4;go_wp2_with (first | (at_builtin; refine bW rfl (.tmp 11) (.tmp 17) 24 rfl w.heap.size 65 e0 i0 _ 2 32 Tryz.underlying24 hi hz0 hz1 hz2 rfl (by decide) _ l.length _ rfl (S4.out.alloc aL _).row w4.heap.size 1 1 [.string k,.string y] rfl (yK w4 k y) (by decide) (by intro u hu; simp at hu; rcases hu with rfl | rfl <;> rfl) (by unfold maxLen; omega) (by omega) (by simp; omega) ?_) | fail);intro v7 w7 e7 gT gM ig;have S7:=S4.out.more aL gT gM;have HR:=Lib.hid (S7.got (P:=fun l=>l.length ≤ 12 ∧ Tiny 31 l) ⟨by simp; omega,HT.out.snoc (by show k.size ≤ 31; omega) (by show y.size ≤ 31; omega)⟩ (HT.out.snoc (by show k.size ≤ 31; omega) (by show y.size ≤ 31; omega)));obtain ⟨A7,c7,rfl⟩:=aW S7.row;clear S7 gT gM ig S4;go_wp2_with fail;go_ret;exact HR.out
  by_cases h1 : x = 1
  · subst h1;have Yg : Hid (∀ w,Calls Tryz.prog 147 #[.int .i64 30,.int .u8 122] w fun e w'=>∃ t : ByteArray,t.size = 30 ∧ e = .returned (.string t) ∧ Below w.heap.size w w'):=fun w=>xR 30 w (by decide);have Yh : Hid (∀ w,Calls Tryz.prog 147 #[.int .i64 31,.int .u8 122] w fun e w'=>∃ t : ByteArray,t.size = 31 ∧ e = .returned (.string t) ∧ Below w.heap.size w w'):=fun w=>xR 31 w (by decide);have Yi : Hid (∀ w,Calls Tryz.prog 147 #[.int .i64 20,.int .u8 97] w fun e w'=>∃ t : ByteArray,t.size = 20 ∧ e = .returned (.string t) ∧ Below w.heap.size w w'):=fun w=>pR 20 w (by decide);have Yj : Hid (∀ w,Calls Tryz.prog 147 #[.int .i64 21,.int .u8 97] w fun e w'=>∃ t : ByteArray,t.size = 21 ∧ e = .returned (.string t) ∧ Below w.heap.size w w'):=fun w=>pR 21 w (by decide);clear hc2 hx h0;go_wp2_with fail;refine (Yg.out _).mono ?_;rintro e w3 ⟨t1,ht1,rfl,hb3⟩;have S3:=Lib.hid (S2.out.below aL hb3);clear S2 hb3 Yg;go_wp2_with fail;refine (Yh.out _).mono ?_;rintro e w4 ⟨t2,ht2,rfl,hb4⟩;have S4:=Lib.hid (S3.out.below aL hb4);have S4':=Lib.hid (S4.out.alloc aL (.cells (aT (Fe t1 t2)).toArray 9));have HP:=Lib.hid (jT c A len cap z w4.heap.size 6 (.slice (some ⟨w4.heap.size,0,none⟩) 6 6) (Fe t1 t2) _ S4'.out.cur (by decide) (by decide) rfl (Nat.lt_of_lt_of_le aL S4.out.grown.size) (World.ownsRow_lit w4 (aT (Fe t1 t2)).toArray 6 (Nat.le_refl _) (by simp [maxLen]) rfl));have HW:=Lib.hid (Nf (a:=t1) (b:=t2) (by omega) (by omega));clear S3 S4 hb4 Yh ht1 ht2;go_wp2_with fail;refine HP.out.mono ?_;rintro e w5 ⟨k,hk,rfl,mH,hg5⟩;have hk':=HW.out k hk;have S5:=Lib.hid (S4'.out.turn aL mH hg5);clear hk mH hg5 HP HW S4';go_wp2_with fail;refine (Yi.out _).mono ?_;rintro e w6 ⟨t3,ht3,rfl,hb6⟩;have S6:=Lib.hid (S5.out.below aL hb6);clear S5 hb6 Yi;go_wp2_with fail;refine (Yj.out _).mono ?_;rintro e w7 ⟨t4,Tv,rfl,nP⟩;have S7:=Lib.hid (S6.out.below aL nP);have S7':=Lib.hid (S7.out.alloc aL (.cells (aT (zD t3 t4)).toArray 9));have HP:=Lib.hid (jT c A len cap z w7.heap.size 4 (.slice (some ⟨w7.heap.size,0,none⟩) 4 4) (zD t3 t4) _ S7'.out.cur (by decide) (by decide) rfl (Nat.lt_of_lt_of_le aL S7.out.grown.size) (World.ownsRow_lit w7 (aT (zD t3 t4)).toArray 4 (Nat.le_refl _) (by simp [maxLen]) rfl));have HW:=Lib.hid (Ng (a:=t3) (b:=t4) (by omega) (by omega));clear S6 S7 nP Yj ht3 Tv;go_wp2_with fail;refine HP.out.mono ?_;rintro e w8 ⟨y,hy,rfl,hc8,KC⟩;have hy':=HW.out y hy;have S8:=Lib.hid (S7'.out.turn aL hc8 KC);have hs8:=S8.out.grown.size;clear hy hc8 KC HP HW S7';go_wp2_with (first | (at_builtin; refine bW rfl (.tmp 21) (.tmp 33) 24 rfl w.heap.size 65 e0 i0 _ 2 32 Tryz.underlying24 hi hz0 hz1 hz2 rfl (by decide) _ l.length _ rfl (S8.out.alloc aL _).row w8.heap.size 1 1 [.string k,.string y] rfl (yK w8 k y) (by decide) (by intro u hu; simp at hu; rcases hu with rfl | rfl <;> rfl) (by unfold maxLen; omega) (by omega) (by simp; omega) ?_) | fail);intro v9 w9 e9 gL Cg zF;have S9:=S8.out.more aL gL Cg;have HR:=Lib.hid (S9.got (P:=fun l=>l.length ≤ 12 ∧ Tiny 31 l) ⟨by simp; omega,HT.out.snoc hk' hy'⟩ (HT.out.snoc hk' hy'));obtain ⟨A9,c9,rfl⟩:=aW S9.row;clear S9 gL Cg zF S8;go_wp2_with fail;go_ret;exact HR.out
  have e0' : (x == 0) = false:=beq_eq_false_iff_ne.2 h0;have e1' : (x == 1) = false:=beq_eq_false_iff_ne.2 h1;by_cases h2 : x = 2
  · subst h2;clear hc2 hx h0 h1 e0' e1';have Hl6:=Lib.hid PK;go_wp2_with fail
    go_loopw [3,4] (fun vo i wr=>∃ (j : Nat) (m : List Label) (q : TypeId),j ≤ 6 ∧ i = .int .i64 j ∧ Hid (m.length = l.length + j) ∧ Hid (Tiny 31 m) ∧ St w c A len cap z q vo m wr) (fun _ i _=>7 - (intOf i).toNat)
    case atStart=>exact ⟨0,l,e0,by omega,rfl,rfl,HT.out,S2.out⟩
    case round=>
      clear S2 HT;obtain ⟨j,m,q,hj,rfl,hml,zG,hst⟩:=hrel;obtain ⟨Am,cm,rfl⟩:=aW hst.row;have S3:=Lib.hid hst;have HB:=Lib.hid (bM c A len cap z 3 wr hst.cur (by decide) (by decide));clear hst;go_wp2_with fail;refine HB.out.mono ?_;rintro e w4 ⟨x,hx,rfl,hc4,hg4⟩;have S4:=Lib.hid (S3.out.turn aL hc4 hg4);have hwx : IntKind.i64.wrap (4 + x) = 4 + x:=IntWalk.i64_in _ (by omega);clear hc4 hg4 HB S3;by_cases hlt : (j : Int) < 4 + x
      · have hj5 : j ≤ 5:=(by omega);have HD:=Lib.hid (decimal.zB (j : Int) w4 (by omega) (by omega));have hts:=Ig j (by omega);generalize (⟨(Lib.itoa (j : Int)).toArray⟩ : ByteArray) = t at HD hts;go_wp2_with fail;refine HD.out.mono ?_;rintro e w5 ⟨rfl,hb5⟩;have S5:=Lib.hid (S4.out.below aL hb5);have hs5:=S5.out.grown.size;have hadd : ¬ 9223372036854775807 < 2 + t.size:=(by omega);have hmb : m.length ≤ 12:=(by have:=hml.out; have:=Hl6.out; omega);have Hmb:=Lib.hid hmb;clear HD S4 hb5 hmb;go_wp2_with (first | (at_builtin; refine bW rfl (.tmp 44) (.tmp 49) 24 rfl w.heap.size 65 q i0 _ 2 32 Tryz.underlying24 hi hz0 hz1 hz2 rfl (by decide) _ m.length _ rfl (S5.out.alloc aL _).row w5.heap.size 1 1 [.string (⟨#[122,122]⟩ ++ t),.string ⟨#[]⟩] rfl (yK w5 _ _) (by decide) (by intro u hu; simp at hu; rcases hu with rfl | rfl <;> rfl) (by have:=Hmb.out; unfold maxLen; omega) (by have:=Hmb.out; omega) (by simp; omega) ?_) | fail);intro v7 w7 e7 gT gM ig;have S7:=Lib.hid (S5.out.more aL gT gM)
        have htz : (⟨#[122,122]⟩ ++ t : ByteArray).size ≤ 31:=by
          rw [ByteArray.size_append];have : (⟨#[122,122]⟩ : ByteArray).size = 2:=rfl;omega
        have Yk:=Lib.hid (zG.out.snoc (x:=⟨⟨#[122,122]⟩ ++ t,⟨#[]⟩⟩) htz (show (⟨#[]⟩ : ByteArray).size ≤ 31 by decide));clear gT gM ig S5;go_wp2_with fail
        go_roundw
        case rel=>exact ⟨j + 1,m ++ [(⟨⟨#[122,122]⟩ ++ t,⟨#[]⟩⟩ : Label)],e7,by omega,by go_num,by show _ = _; rw [List.length_append,hml.out]; simp; omega,Yk.out,S7.out⟩
        case measure=>simp [intOf]; omega
      · have HR:=Lib.hid (S4.out.got (P:=fun l=>l.length ≤ 12 ∧ Tiny 31 l) ⟨by have:=hml.out; have:=Hl6.out; omega,zG.out⟩ zG.out);go_wp2_with fail;go_ret;exact HR.out
  · have e2' : (x == 2) = false:=beq_eq_false_iff_ne.2 h2;have HR:=Lib.hid (S2.out.got (P:=fun l=>l.length ≤ 12 ∧ Tiny 31 l) ⟨by omega,HT.out⟩ HT.out);clear hc2 hx h0 h1 h2 S2;go_wp2_with fail;go_ret;exact HR.out
end draw
namespace ty
open Go Go.RowKit
theorem Host.parts {w : World} {B f : Nat} {us : List Value} {x : Host} {F : List Nat} (h : bq w B (f + 1) us x.row F) (hn : F.Nodup) : ∃ A1 c1 F1 A5 c5 F5,us = [.string x.name,.slice A1 x.labels.length c1,.int .i64 x.cpu,.int .i64 x.mem,.int .i64 x.slots,.slice A5 x.bP.length c5] ∧ x.Wf ∧ Og w B w.heap.size (f + 1) (.slice A1 x.labels.length c1) (.sl 2 x.labels.length (x.labels.flatMap Label.row)) F1 ∧ Og w B w.heap.size (f + 1) (.slice A5 x.bP.length c5) (.sl 3 x.bP.length (x.bP.flatMap av.row)) F5 ∧ (∀ y ∈ F1,y ∉ F5):=by
  have hl:=h.lies;unfold Host.row at h;obtain ⟨v0,us,F0,F',rfl,rfl,o0,h⟩:=h.bO;obtain ⟨v1,us,F1,F',rfl,rfl,o1,h⟩:=h.bO;obtain ⟨v2,us,F2,F',rfl,rfl,o2,h⟩:=h.bO;obtain ⟨v3,us,F3,F',rfl,rfl,o3,h⟩:=h.bO;obtain ⟨v4,us,F4,F',rfl,rfl,o4,h⟩:=h.bO;obtain ⟨v5,us,F5,F',rfl,rfl,o5,h⟩:=h.bO;obtain ⟨rfl,rfl⟩:=h.nO;obtain ⟨⟨rfl,w0⟩,rfl⟩:=o0;obtain ⟨A1,c1,rfl,_,_,_⟩:=o1.lies.sl;obtain ⟨⟨rfl,w2⟩,rfl⟩:=o2;obtain ⟨⟨rfl,w3⟩,rfl⟩:=o3;obtain ⟨⟨rfl,w4⟩,rfl⟩:=o4;obtain ⟨A5,c5,rfl,_,_,_⟩:=o5.lies.sl;simp only [List.nil_append,List.append_nil] at hn;obtain ⟨n1,n5,d1⟩:=List.nodup_append.1 hn;exact ⟨A1,c1,F1,A5,c5,F5,rfl,⟨w0,w2,w3,w4⟩,⟨o1,n1,o1.range⟩,⟨o5,n5,o5.range⟩,fun y hx hy=>d1 y hx y hy rfl⟩
end ty
namespace ty.Str
open Go Go.RowKit
def row (s : ByteArray) : List C:=[.str s]
def wt (s : ByteArray) : Nat:=s.size
def cost (_ : ByteArray) : Nat:=1
def mark (_ : ByteArray) (k : Int) : ByteArray:=lawMark.mt k
theorem flat (l : List ByteArray) : l.flatMap row = l.map C.str:=by
  induction l with
  | nil=>rfl
  | cons a r ih=>rw [List.flatMap_cons,ih]; rfl
theorem opened {w : World} {f : Nat} {v : Value} {l : List ByteArray} (h : bf w f v (.sl 1 l.length (l.flatMap row))) : ∃ A c,v = .slice A l.length c ∧ l.length ≤ c ∧ c ≤ maxLen ∧ Rd w A l.length (aT l) ∧ ∀ x ∈ l,x.size ≤ maxLen:=by
  rw [flat] at h;obtain ⟨A,c,rfl,h1,h2,_,f',rfl,h3⟩:=h.sl;refine ⟨A,c,rfl,h1,h2,⟨by rw [bG],fun hn=>?_⟩,fun x hx=>?_⟩
  · obtain ⟨g,o,rfl,hg,hc⟩:=h3 hn;refine ⟨g,o,rfl,hg,fun j hj u hu=>?_⟩;rw [bV l j hj] at hu;injection hu with hu;obtain ⟨u',hu',hl⟩:=hc j (.str l[j]) (by simp [hj]);rw [hl.str.1] at hu';rw [hu',← hu]
  · obtain ⟨i,hi,rfl⟩:=List.getElem_of_mem hx;obtain ⟨g,o,rfl,hg,hc⟩:=h3 (by omega);obtain ⟨u',hu',hl⟩:=hc i (.str l[i]) (by simp [hi]);exact hl.str.2
end ty.Str
namespace ty
open Go Go.RowKit
structure Need where
  key : ByteArray
  op : Int
  values : List ByteArray
namespace Need
def row (x : Need) : List C:=[.str x.key,.int .i64 x.op,.sl 1 x.values.length (x.values.flatMap Str.row)]
theorem au (x : Need) : x.row.length = 3:=rfl
def wt (x : Need) : Nat:=x.key.size + (x.values.length + bH Str.wt x.values)
def cost (x : Need) : Nat:=2 + bH Str.cost x.values
def mark (x : Need) (k : Int) : Need:=⟨(lawMark.mt k),(k + 1),(LX Str.mark Str.cost x.values (k + 2))⟩
def Wf (x : Need) : Prop:=x.key.size ≤ maxLen ∧ (Lit.int .i64 x.op).wf = true
theorem opened {w : World} {f : Nat} {us : List Value} {x : Need} (h : aH w f us x.row) : ∃ A2 c2,us = [.string x.key,.int .i64 x.op,.slice A2 x.values.length c2] ∧ x.Wf ∧ x.values.length ≤ c2 ∧ c2 ≤ maxLen ∧ bf w f (.slice A2 x.values.length c2) (.sl 1 x.values.length (x.values.flatMap Str.row)):=by
  obtain ⟨v0,_,rfl,l0,h⟩:=h.bO;obtain ⟨v1,_,rfl,l1,h⟩:=h.bO;obtain ⟨v2,_,rfl,l2,h⟩:=h.bO;obtain rfl:=h.nO;obtain ⟨rfl,w0⟩:=l0.str;obtain ⟨rfl,w1⟩:=l1.int;obtain ⟨A2,c2,rfl,k2,m2,_⟩:=l2.sl;exact ⟨A2,c2,rfl,⟨w0,w1⟩,k2,m2,l2⟩
theorem owned {w : World} {B f : Nat} {x : Need} {v2 : Value} {F2 : List Nat} (h : x.Wf) (o2 : Own w B (f + 1) v2 (.sl 1 x.values.length (x.values.flatMap Str.row)) F2) (n2 : F2.Nodup) : ∃ F,bq w B (f + 1) [.string x.key,.int .i64 x.op,v2] x.row F ∧ F.Nodup ∧ ∀ y ∈ F,y ∈ F2:=by
  obtain ⟨w0,w1⟩:=h;refine ⟨_,bq.cons (lH w0) (bq.cons (mD w1) (bq.cons o2 (bq.nil))),?_,?_⟩
  · simp only [List.nil_append,List.append_nil];exact n2
  · simp only [List.nil_append,List.append_nil];exact fun y hy=>hy
end Need
theorem vJ {α : Type} {vs : List α} (h : vs.length = 3) : ∃ u0 u1 u2,vs = [u0,u1,u2]:=by
  match vs,h with
  | [u0,u1,u2],_=>exact ⟨u0,u1,u2,rfl⟩
end ty
namespace need
open Go Go.RowKit ty lab
def nV (l : List ByteArray) (k : Nat) : Prop:=∀ i (h : i < l.length),i < k → gG l[i] ∧ ∀ m (hm : m + 1 = i),aJ (l[m]'(by omega)) l[i] = true
theorem pW {l : List ByteArray} {k : Nat} (h : nV l k) (hk : k < l.length) (h2 : gG l[k]) (h3 : ∀ m (hm : m + 1 = k),aJ (l[m]'(by omega)) l[k] = true) : nV l (k + 1):=fun i hi hik=>by
  by_cases e : i = k
  · subst e; exact ⟨h2,h3⟩
  · exact h i hi (by omega)
structure lU (x : Need) : Prop where
  key : gP x.key
  lo : 1 ≤ x.op
  hi : x.op ≤ 4
  none : 3 ≤ x.op → x.values.length = 0
  some : x.op < 3 → 1 ≤ x.values.length ∧ x.values.length ≤ 4 ∧ nV x.values x.values.length
noncomputable def abm (o : Option ByteArray) (x : Need) : Bool:=match o with
  | some v=>if x.op = 1 then yes (v ∈ x.values) else if x.op = 2 then !yes (v ∈ x.values) else if x.op = 3 then true else false
  | none=>if x.op = 1 then false else if x.op = 2 then true else if x.op = 3 then false else true
noncomputable def abn (l : List Label) (x : Need) : Bool:=yes (lU x) && abm (XG l x.key) x
def fU : List ByteArray → List ByteArray → Bool
  | [],[]=>false
  | [],_ :: _=>true
  | _ :: _,[]=>false
  | a :: x,b :: y=>if a = b then fU x y else aJ a b
theorem Fg : ∀ {a b : List ByteArray} {k : Nat} (h1 : k < a.length) (h2 : k < b.length),(∀ j (hj : j < k),(a[j]'(by omega)) = (b[j]'(by omega))) → a[k] ≠ b[k] → fU a b = aJ a[k] b[k]
  | [],_,_,h,_,_,_=>by simp at h
  | _ :: _,[],_,_,h,_,_=>by simp at h
  | x :: a,y :: b,0,_,_,_,hne=>by
    rw [fU,if_neg (by simpa using hne)]; rfl
  | x :: a,y :: b,k + 1,h1,h2,he,hne=>by
    have h0 : x = y:=he 0 (by omega);rw [fU,if_pos h0];exact Fg (k:=k) (by simpa using h1) (by simpa using h2) (fun j hj=>by have:=he (j + 1) (by omega); simpa using this) (by simpa using hne)
theorem Ch : ∀ {a b : List ByteArray},(∀ j (h1 : j < a.length) (h2 : j < b.length),a[j] = b[j]) → fU a b = decide (a.length < b.length)
  | [],[],_=>rfl
  | [],_ :: _,_=>by simp [fU]
  | _ :: _,[],_=>by simp [fU]
  | x :: a,y :: b,h=>by
    have h0 : x = y:=h 0 (by simp) (by simp);rw [fU,if_pos h0,Ch (a:=a) (b:=b) (fun j h1 h2=>by have:=h (j + 1) (by simpa using h1) (by simpa using h2); simpa using this)];simp
def dA (a b : Need) : Bool:=if a.key = b.key then (if a.op = b.op then fU a.values b.values else decide (a.op < b.op)) else aJ a.key b.key
theorem sQ (a : ByteArray) : aJ a a = false:=lS _
theorem Ci : ∀ a : List ByteArray,fU a a = false
  | []=>rfl
  | a :: x=>by rw [fU,if_pos rfl]; exact Ci x
theorem xS : ∀ a b : List ByteArray,fU a b = false → fU b a = false → a = b
  | [],[],_,_=>rfl
  | [],_ :: _,h,_=>by simp [fU] at h
  | _ :: _,[],_,h=>by simp [fU] at h
  | a :: x,b :: y,h1,h2=>by
    by_cases e : a = b
    · subst e;rw [fU,if_pos rfl] at h1 h2;rw [xS x y h1 h2]
    · rw [fU,if_neg e] at h1;rw [fU,if_neg (fun h=>e h.symm)] at h2;exact absurd (mV h1 h2) e
theorem sS (a : Need) : dA a a = false:=by unfold dA; rw [if_pos rfl,if_pos rfl]; exact Ci _
theorem rD (a b : Need) (h1 : dA a b = false) (h2 : dA b a = false) : a = b:=by
  unfold dA at h1 h2;by_cases ek : a.key = b.key
  · rw [if_pos ek] at h1;rw [if_pos ek.symm] at h2;by_cases eo : a.op = b.op
    · rw [if_pos eo] at h1;rw [if_pos eo.symm] at h2;have ev:=xS _ _ h1 h2;cases a; cases b;simp only at ek eo ev;rw [ek,eo,ev]
    · rw [if_neg eo] at h1;rw [if_neg (fun h=>eo h.symm)] at h2;simp at h1 h2;omega
  · rw [if_neg ek] at h1;rw [if_neg (fun h=>ek h.symm)] at h2;exact absurd (mV h1 h2) ek
def qy (l : List Need) (k : Nat) : Prop:=∀ i (h : i < l.length),i < k → lU l[i] ∧ ∀ m (hm : m + 1 = i),dA (l[m]'(by omega)) l[i] = true
theorem pX {l : List Need} {k : Nat} (h : qy l k) (hk : k < l.length) (h2 : lU l[k]) (h3 : ∀ m (hm : m + 1 = k),dA (l[m]'(by omega)) l[k] = true) : qy l (k + 1):=fun i hi hik=>by
  by_cases e : i = k
  · subst e; exact ⟨h2,h3⟩
  · exact h i hi (by omega)
def mF (l : List Need) : Prop:=l.length ≤ 4 ∧ qy l l.length
noncomputable def aem (l : List Need) (abo : List Label) : Bool:=l.all (abn abo)
def mU (a b : List Need) (k : Nat) : Prop:=∀ i (h1 : i < a.length) (h2 : i < b.length),i < k → a[i] = b[i]
def l8 (a b : List Need) : Prop:=a.length = b.length ∧ mU a b a.length
theorem zH {a b : List Need} : l8 a b ↔ a = b:=by
  constructor
  · rintro ⟨h1,h2⟩;exact List.ext_getElem h1 fun i i1 i2=>h2 i i1 i2 i1
  · rintro rfl;exact ⟨rfl,fun i _ _ _=>rfl⟩
def opB (op : Int) : List UInt8:=if op = 1 then [105,110] else if op = 2 then [110,111,116,105,110] else if op = 3 then [104,97,115] else [104,97,115,110,111,116]
def Tx : List ByteArray → List UInt8
  | []=>[]
  | [x]=>x.data.toList
  | x :: y :: r=>x.data.toList ++ 44 :: Tx (y :: r)
open Classical in
noncomputable def acS (x : Need) : ByteArray:=if lU x then ⟨(x.key.data.toList ++ 32 :: opB x.op ++ (if x.values = [] then [] else 32 :: Tx x.values)).toArray⟩ else ⟨#[]⟩
theorem Nh (x : Need) : x.key.size ≤ x.wt:=by unfold Need.wt; omega
theorem sU (x : Need) : x.values.length ≤ x.wt:=by unfold Need.wt; omega
theorem Wd {x : Need} {k : Nat} (h : k < x.values.length) : x.values[k].size ≤ x.wt:=by
  have:=ko Str.wt h;unfold Str.wt at this;unfold Need.wt;have e : bH Str.wt x.values = bH (fun s : ByteArray=>s.size) x.values:=rfl;omega
end need
end Go.Proofs.YtcfbkfmkjggcdaaGreatDoor
