/- Merged: CmpKI AscLabel LabOkI CmpNM AscV NeedI CmpNI OrI CmpNJ. -/
import Derived.Test.YtcfbkfmkjggcdaaGreatDoorGA6
import Derived.Test.YtcfbkfmkjggcdaaGreatDoorGA3
import Derived.Test.YtcfbkfmkjggcdaaGreatDoorGA8
import Derived.Test.YtcfbkfmkjggcdaaGreatDoorGA15
import Derived.Test.YtcfbkfmkjggcdaaGreatDoorShelf
import Derived.Laws.Cover1
import Derived.Test.YtcfbkfmkjggcdaaGreatDoorGA1
import Derived.Test.YtcfbkfmkjggcdaaGreatDoorGA11
import Derived.Test.YtcfbkfmkjggcdaaGreatDoorGA9
import Derived.Test.YtcfbkfmkjggcdaaGreatDoorGA2
import Derived.Test.YtcfbkfmkjggcdaaGreatDoorGA13
import Derived.Deep.RegionHeld3
import Derived.Test.YtcfbkfmkjggcdaaGreatDoorRows
import Derived.ProofKit
import Derived.OpenShut
set_option linter.unusedVariables false
namespace Go.Proofs.YtcfbkfmkjggcdaaGreatDoor
namespace lab
open Go.ChangeShapes Go.WideShapes Go.ChangeAt Go.RowKit ty
open Go.Sort (grow)
def rJ (x : Label) : Prop:=gP x.key ∧ gG x.value
theorem D6 (x : Label) (w : World) (hw : x.Wf) :
    Calls Tryz.prog 158 #[.agg #[.string x.key,.string x.value]] w fun e w'=>e = .returned (.bool (yes (rJ x))) ∧ Below w.heap.size w w':=zO x w hw
def rM (x y : Label) : Bool:=aJ x.key y.key
theorem zR (l : List Label) (k : Nat) : taint.fE rJ rM l k ↔ uK l k:=by
  unfold taint.fE uK rJ rM;exact ⟨fun h i hi hk=>⟨(h i hi hk).1.1,(h i hi hk).1.2,(h i hi hk).2⟩,fun h i hi hk=>⟨⟨(h i hi hk).1,(h i hi hk).2.1⟩,(h i hi hk).2.2⟩⟩
def KP (x y : Label) : Int:=Lib.compareBytes x.key.data.toList y.key.data.toList
theorem zS : ∀ a b : List UInt8,decide (Lib.compareBytes a b < 0) = Op.bytesLess a b
  | [],[]=>rfl
  | [],_ :: _=>rfl
  | _ :: _,[]=>rfl
  | a :: x,b :: y=>by
    rw [Lib.compareBytes,Op.bytesLess];by_cases h1 : a < b
    · simp [h1]
    · rw [if_neg h1];by_cases h2 : b < a
      · rw [if_pos h2];have : (a == b) = false:=(by rw [beq_eq_false_iff_ne]; rintro rfl; exact h1 h2);simp [h1,this]
      · rw [if_neg h2,zS x y]
        obtain rfl : a = b:=by
          rw [UInt8.lt_iff_toNat_lt] at h1 h2;exact UInt8.toNat_inj.1 (by omega)
        simp [h1]
theorem KQ (x y : Label) : decide (KP x y < 0) = rM x y:=by
  unfold KP rM aJ;rw [zS,ByteArray.toList_eq,ByteArray.toList_eq]
set_option maxRecDepth 100000 in
theorem rH (x y : Label) (W : World) :
    Calls Tryz.prog 93 #[.agg #[.string x.key,.string x.value],.agg #[.string y.key,.string y.value]] W fun e w'=>e = .returned (.int .i64 (KP x y)) ∧ Gr W w':=by
  have hcon:=Lib.hid (fun W'=>Tryz.strings_Compare x.key y.key W');unfold KP;generalize Lib.compareBytes x.key.data.toList y.key.data.toList = r at hcon;go_enter Tryz.func93,Tryz.ntmps93;go_wp2_with fail;refine (hcon.out _).mono ?_;rintro e w' ⟨rfl,rfl⟩;go_wp2_with fail;go_ret;exact ⟨rfl,0,_,by rw [Sort.alloc_eq_grow,Sort.alloc_eq_grow,Sort.grow_grow]; rfl⟩
end lab
namespace lab
open Go.ChangeShapes Go.WideShapes Go.ChangeAt Go.RowKit ty lab dedup
open taint (fE fM)
set_option maxRecDepth 100000 in
set_option maxHeartbeats 16000000 in
theorem Bh (l : List Label) (f : Nat) (v : Value) (w : World) (h : bf w f v (.sl 2 l.length (l.flatMap Label.row))) :
    Calls Tryz.prog 157 #[v,.func (.func 158) #[] #[],.func (.func 93) #[] #[]] w fun e w'=>e = .returned (.bool (yes (fE rJ rM l l.length))) ∧ Below w.heap.size w w':=by
  obtain ⟨A,c,rfl,hc1,hc2,f',rfl,hk⟩:=bD Label.au h;unfold maxLen at hc2;obtain ⟨R,hR⟩ : ∃ R,yes (fE rJ rM l l.length) = R:=⟨_,rfl⟩;rw [hR];have Hno : Hid (¬ fE rJ rM l l.length → R = false):=fun h=>by rw [← hR]; exact aP h
  have aG : Hid (fE rJ rM l l.length → R = true):=fun h=>by rw [← hR]; exact aQ h
  have Hk:=Lib.hid hk;clear h hk hR;go_enter Tryz.func157,Tryz.ntmps157;go_wp2_with fail
  go_loopw [11] (fun i wr=>∃ j : Nat,j ≤ l.length ∧ i = .int .i64 j ∧ Hid (fE rJ rM l j) ∧ Below w.heap.size w wr) (fun i _=>l.length - (intOf i).toNat)
  case atStart=>exact ⟨0,Nat.zero_le _,rfl,fun i hi hj=>by omega,Below.refl _ _⟩
  case round=>
    obtain ⟨j,hj,rfl,hgood,hbel⟩:=hrel;have bg:=Lib.hid hbel;by_cases hlt : j < l.length
    · obtain ⟨g,o,rfl,hg,us,kN,hc,hls⟩:=(Hk.out.below hbel).get hlt;obtain ⟨rfl,hwf⟩:=Label.opened hls;have q0 : wr.cell? ⟨g,o + j * 2,none⟩ = some (.string l[j].key):=hc 0 _ rfl;have q1 : wr.cell? ⟨g,o + j * 2 + 1,none⟩ = some (.string l[j].value):=hc 1 _ rfl;obtain ⟨X,hX⟩ : ∃ X,X = wr.alloc (.cells #[.string l[j].key,.string l[j].value] 65):=⟨_,rfl⟩;have HB:=Lib.hid (AU.new 65 wr [.string l[j].key,.string l[j].value]);have hbX : Below wr.heap.size wr X:=(by rw [hX]; exact HB.out.1);have HN:=Lib.hid (fun p : ak X=>D6 l[j] p.v hwf);have HW2 : Hid (∀ p : ak X,Below w.heap.size w p.v):=fun p=>ah hbel (hbX.trans (p.h.mono hbX.size)) hbel.size;have B0 : ∀ p : ak X,p.v.cell? ⟨wr.heap.size,0,none⟩ = some (.string l[j].key):=fun p=>p.cell (by rw [hX]; simp) (by rw [hX]; exact HB.out.cell (j:=0) rfl);have B1 : ∀ p : ak X,p.v.cell? ⟨wr.heap.size,1,none⟩ = some (.string l[j].value):=fun p=>p.cell (by rw [hX]; simp) (by rw [hX]; exact HB.out.cell (j:=1) rfl);have HX:=Lib.hid hX;have hj0 : (0 : Int) ≤ (j : Int):=(by omega);have hjn : (j : Int) < (l.length : Int):=(by omega);by_cases hP : rJ l[j]
      case neg=>
        have Hf:=Lib.hid (Hno.out fun h2=>hP (h2 j hlt hlt).1);rw [aP hP] at HN;clear hP Hno aG hgood hls kN hc hg hwf Hk hbel hbX hX HB;generalize l[j] = x at *;go_wp2_with fail;rw [← HX.out];refine wp_region_quiet_below (by kernel_rfl) (by kernel_rfl) ?_
        repeat (refine @wpQuiet_step _ _ _ _ _ _ _ ?_; intro K hK; go_simp; first | (refine hK _ ?_; clear hK K) | (apply Exists.intro; refine ⟨fun _=>?_,hK _ ?_⟩; (first | (go_at_call 158; exact Calls.aF (HN.out _))); clear hK K))
        refine wpQuiet_nil ?_;intro _ hw';obtain ⟨p,rfl⟩:=hw';go_wp2_with fail;go_ret;exact ⟨by rw [Hf.out]; rfl,HW2.out p⟩
      rw [aQ hP] at HN;by_cases hz : j = 0
      · have Hg:=Lib.hid (fM hgood.out hlt hP (fun m hm=>by omega));have hn0 : ¬ (0 : Int) < (j : Int):=(by omega);have hn1 : ¬ 0 < j:=(by omega);clear hP Hno aG hgood hls kN hc hg hwf Hk hz hbel hbX hX HB;generalize l[j] = x at *;go_wp2_with fail;rw [← HX.out];refine wp_region_quiet_below (by kernel_rfl) (by kernel_rfl) ?_
        repeat (refine @wpQuiet_step _ _ _ _ _ _ _ ?_; intro K hK; go_simp; first | (refine hK _ ?_; clear hK K) | (apply Exists.intro; refine ⟨fun _=>?_,hK _ ?_⟩; (first | (go_at_call 158; exact Calls.aF (HN.out _))); clear hK K))
        refine wpQuiet_nil ?_;intro _ hw';obtain ⟨p,rfl⟩:=hw';go_wp2_with fail
        go_roundw
        case rel=>exact ⟨j + 1,by omega,by go_num,Hg.out,HW2.out p⟩
        case measure=>simp [intOf]; omega
      obtain ⟨m,hm⟩ : ∃ m,m + 1 = j:=⟨j - 1,by omega⟩;have hml : m < l.length:=(by omega);obtain ⟨g',o',hA3,hg2,MH,jD,hc2',eZ⟩:=(Hk.out.below hbel).get hml;injection hA3 with hA3;injection hA3 with e1 e2;subst e1 e2;obtain ⟨rfl,_⟩:=Label.opened eZ;have HC:=Lib.hid (fun p : ak X=>nk (rH l[m] l[j] p.v));have R0 : ∀ p : ak X,p.v.cell? ⟨g,o + m * 2,none⟩ = some (.string l[m].key):=fun p=>(World.cell?_of_block ((hbX.trans (p.h.mono hbX.size)).block g hg)).trans (hc2' 0 _ rfl);have R1 : ∀ p : ak X,p.v.cell? ⟨g,o + m * 2 + 1,none⟩ = some (.string l[m].value):=fun p=>(World.cell?_of_block ((hbX.trans (p.h.mono hbX.size)).block g hg)).trans (hc2' 1 _ rfl);have yZ : (j : Int) - 1 = (m : Int):=(by omega);have BN : IntKind.i64.wrap (m : Int) = (m : Int):=IntWalk.i64_in _ (by omega);have hm0 : (0 : Int) ≤ (m : Int):=(by omega);have hm1 : (m : Int) < (l.length : Int):=(by omega);have hjp : (0 : Int) < (j : Int):=(by omega);have Dw : 0 < j:=(by omega);have hb:=KQ l[m] l[j];by_cases hr : KP l[m] l[j] < 0
      · rw [decide_eq_true hr] at hb
        have Hg:=Lib.hid (fM hgood.out hlt hP (fun m' hm'=>by
                                                                          obtain rfl : m' = m:=(by omega);exact hb.symm))
        have hr0 : ¬ (0 : Int) ≤ KP l[m] l[j]:=(by omega);clear hP Hno aG hgood hls kN hc hg hwf eZ jD hc2' hg2 Hk hz hm hb hbel hbX hX HB;generalize KP l[m] l[j] = r at HC hr0 hr;generalize l[j] = x at *;generalize l[m] = y at *;go_wp2_with fail;rw [← HX.out];refine wp_region_quiet_below (by kernel_rfl) (by kernel_rfl) ?_
        repeat (refine @wpQuiet_step _ _ _ _ _ _ _ ?_; intro K hK; go_simp; first | (refine hK _ ?_; clear hK K) | (apply Exists.intro; refine ⟨fun _=>?_,hK _ ?_⟩; (first | (go_at_call 158; exact Calls.aF (HN.out _)) | (go_at_call 93; exact Calls.aF (HC.out _))); clear hK K))
        refine wpQuiet_nil ?_;intro _ hw';obtain ⟨p,rfl⟩:=hw';go_wp2_with fail
        go_roundw
        case rel=>exact ⟨j + 1,by omega,by go_num,Hg.out,HW2.out p⟩
        case measure=>simp [intOf]; omega
      · rw [decide_eq_false hr] at hb
        have Hf:=Lib.hid (Hno.out fun h2=>by
          have:=(h2 j hlt hlt).2 m hm;rw [← hb] at this; cases this)
        have hr0 : (0 : Int) ≤ KP l[m] l[j]:=(by omega);clear hP Hno aG hgood hls kN hc hg hwf eZ jD hc2' hg2 Hk hz hm hb hbel hbX hX HB;generalize KP l[m] l[j] = r at HC hr0 hr;generalize l[j] = x at *;generalize l[m] = y at *;go_wp2_with fail;rw [← HX.out];refine wp_region_quiet_below (by kernel_rfl) (by kernel_rfl) ?_
        repeat (refine @wpQuiet_step _ _ _ _ _ _ _ ?_; intro K hK; go_simp; first | (refine hK _ ?_; clear hK K) | (apply Exists.intro; refine ⟨fun _=>?_,hK _ ?_⟩; (first | (go_at_call 158; exact Calls.aF (HN.out _)) | (go_at_call 93; exact Calls.aF (HC.out _))); clear hK K))
        refine wpQuiet_nil ?_;intro _ hw';obtain ⟨p,rfl⟩:=hw';go_wp2_with fail;go_ret;exact ⟨by rw [Hf.out]; rfl,HW2.out p⟩
    · obtain rfl : j = l.length:=(by omega);have Hf:=Lib.hid (aG.out hgood.out);clear hgood hbel;go_wp2_with fail;go_ret;exact ⟨by rw [Hf.out]; rfl,bg.out⟩
end lab
namespace lab
open Go.ChangeShapes Go.WideShapes Go.ChangeAt Go.RowKit ty
set_option maxRecDepth 100000 in
set_option maxHeartbeats 8000000 in
theorem qz (l : List Label) (f : Nat) (v : Value) (w : World) (h : bf w f v (.sl 2 l.length (l.flatMap Label.row))) :
    Calls Tryz.prog 94 #[v] w fun e w'=>e = .returned (.bool (yes (dw l))) ∧ Below w.heap.size w w':=by
  have HA:=Lib.hid (Bh l f v w h);obtain ⟨A,c,rfl,hc1,hc2,_⟩:=bD Label.au h;unfold maxLen at hc2;by_cases h6 : 6 < l.length
  · have Hf:=Lib.hid (aP (p:=dw l) (fun h=>by have:=h.1; omega));clear h HA;go_enter Tryz.func94,Tryz.ntmps94;go_wp2_with fail;go_ret;exact ⟨by rw [Hf.out]; rfl,Below.refl _ _⟩
  have He : Hid (yes (dw l) = yes (taint.fE rJ rM l l.length)):=by
    unfold Hid
    congr 1
    exact propext ⟨fun h=>(zR l _).2 h.2,fun h=>⟨by omega,(zR l _).1 h⟩⟩
  rw [He.out];clear He h;generalize yes (taint.fE rJ rM l l.length) = R at HA ⊢;go_enter Tryz.func94,Tryz.ntmps94;go_wp2_with fail;refine HA.out.mono ?_;rintro e w1 ⟨rfl,hb⟩;go_wp2_with fail;go_ret;exact ⟨rfl,hb⟩
theorem xX (l : List Label) (f : Nat) (v : Value) (w : World) (h : bf w f v (.sl 2 l.length (l.flatMap Label.row))) (hz : Small l) :
    Calls Tryz.prog 94 #[v] w fun e w'=>e = .returned (.bool (yes (dw l))) ∧ Below w.heap.size w w':=qz l f v w h
end lab
namespace need
open Go Go.RowKit ty lab dedup
def qI : List ByteArray → List ByteArray → Int
  | [],[]=>0
  | [],_ :: _=>-1
  | _ :: _,[]=>1
  | a :: x,b :: y=>if fC a b = 0 then qI x y else fC a b
theorem JO : ∀ {a b : List ByteArray} {k : Nat} (h1 : k < a.length) (h2 : k < b.length),(∀ j (hj : j < k),(a[j]'(by omega)) = (b[j]'(by omega))) → fC a[k] b[k] ≠ 0 → qI a b = fC a[k] b[k]
  | [],_,_,h,_,_,_=>by simp at h
  | _ :: _,[],_,_,h,_,_=>by simp at h
  | x :: a,y :: b,0,_,_,_,hne=>by
    rw [qI,if_neg (by simpa using hne)]; rfl
  | x :: a,y :: b,k + 1,h1,h2,he,hne=>by
    have h0 : x = y:=he 0 (by omega);rw [qI,if_pos (by rw [h0]; exact sJ _)];exact JO (k:=k) (by simpa using h1) (by simpa using h2) (fun j hj=>by have:=he (j + 1) (by omega); simpa using this) (by simpa using hne)
theorem Ga : ∀ {a b : List ByteArray},(∀ j (h1 : j < a.length) (h2 : j < b.length),a[j] = b[j]) → qI a b = if b.length < a.length then 1 else if a.length < b.length then -1 else 0
  | [],[],_=>rfl
  | [],_ :: _,_=>by simp [qI]
  | _ :: _,[],_=>by simp [qI]
  | x :: a,y :: b,h=>by
    have h0 : x = y:=h 0 (by simp) (by simp);rw [qI,if_pos (by rw [h0]; exact sJ _),Ga (a:=a) (b:=b) (fun j h1 h2=>by have:=h (j + 1) (by simpa using h1) (by simpa using h2); simpa using this)];simp
theorem Gb : ∀ a b : List ByteArray,qI a b = 0 ∧ a = b ∨ qI a b < 0 ∧ a ≠ b ∧ fU a b = true ∨ 0 < qI a b ∧ a ≠ b ∧ fU a b = false
  | [],[]=>.inl ⟨rfl,rfl⟩
  | [],_ :: _=>.inr (.inl ⟨by rw [qI]; decide,by simp,rfl⟩)
  | _ :: _,[]=>.inr (.inr ⟨by rw [qI]; decide,by simp,rfl⟩)
  | a :: x,b :: y=>by
    rw [qI,fU];rcases lT a b with ⟨h1,h2⟩ | ⟨h1,h2,h3⟩ | ⟨h1,h2,h3⟩
    · rw [if_pos h1,if_pos h2];subst h2;rcases Gb x y with ⟨g1,g2⟩ | ⟨g1,g2,g3⟩ | ⟨g1,g2,g3⟩
      · exact .inl ⟨g1,by rw [g2]⟩
      · exact .inr (.inl ⟨g1,by simpa using g2,g3⟩)
      · exact .inr (.inr ⟨g1,by simpa using g2,g3⟩)
    · rw [if_neg (by omega),if_neg h2];exact .inr (.inl ⟨h1,by simp [h2],h3⟩)
    · rw [if_neg (by omega),if_neg h2];exact .inr (.inr ⟨h1,by simp [h2],h3⟩)
def qJ (a b : Need) : Int:=Jp (fC a.key b.key) (arith.qE a.op b.op) (qI a.values b.values)
theorem NZ {a b : Need} (h1 : a.key = b.key) (h2 : a.op = b.op) (h3 : a.values = b.values) : a = b:=by
  cases a; cases b;simp only at h1 h2 h3;rw [h1,h2,h3]
theorem Gc (a b : Need) : qJ a b = 0 ∧ a = b ∨ qJ a b < 0 ∧ a ≠ b ∧ dA a b = true ∨ 0 < qJ a b ∧ a ≠ b ∧ dA a b = false:=by
  unfold qJ dA Jp arith.qE;rcases lT a.key b.key with ⟨h1,h2⟩ | ⟨h1,h2,h3⟩ | ⟨h1,h2,h3⟩
  · rw [if_pos h1,if_pos h2];by_cases ho : a.op = b.op
    · rw [if_neg (show ¬ a.op < b.op by omega),if_neg (show ¬ b.op < a.op by omega),if_pos rfl,if_pos ho];rcases Gb a.values b.values with ⟨g1,g2⟩ | ⟨g1,g2,g3⟩ | ⟨g1,g2,g3⟩
      · exact .inl ⟨g1,NZ h2 ho g2⟩
      · exact .inr (.inl ⟨g1,fun e=>g2 (by rw [e]),g3⟩)
      · exact .inr (.inr ⟨g1,fun e=>g2 (by rw [e]),g3⟩)
    · rw [if_neg ho];by_cases h : a.op < b.op
      · rw [if_pos h];exact .inr (.inl ⟨by rw [if_neg (by omega)]; omega,fun e=>ho (by rw [e]),decide_eq_true h⟩)
      · rw [if_neg h,if_pos (show b.op < a.op by omega)];exact .inr (.inr ⟨by rw [if_neg (by omega)]; omega,fun e=>ho (by rw [e]),decide_eq_false h⟩)
  · rw [if_neg (by omega),if_neg h2];exact .inr (.inl ⟨h1,fun e=>h2 (by rw [e]),h3⟩)
  · rw [if_neg (by omega),if_neg h2];exact .inr (.inr ⟨h1,fun e=>h2 (by rw [e]),h3⟩)
theorem Cy (a b : Need) : decide (qJ a b < 0) = dA a b:=by
  rcases Gc a b with ⟨h1,h2⟩ | ⟨h1,_,h3⟩ | ⟨h1,_,h3⟩
  · subst h2; rw [h1,sS]; rfl
  · rw [h3]; exact decide_eq_true h1
  · rw [h3]; exact decide_eq_false (by omega)
theorem Cz (a b : Need) : decide (qJ a b = 0) = yes (a = b):=by
  rcases Gc a b with ⟨h1,h2⟩ | ⟨h1,h2,h3⟩ | ⟨h1,h2,h3⟩
  · rw [aQ h2]; exact decide_eq_true h1
  · rw [aP h2]; exact decide_eq_false (by omega)
  · rw [aP h2]; exact decide_eq_false (by omega)
end need
namespace need
open Go.ChangeShapes Go.WideShapes Go.ChangeAt Go.RowKit ty lab
theorem D7 (a b : ByteArray) (w : World) : Calls Tryz.prog 98 #[.string a,.string b] w fun e w'=>e = .returned (.int .i64 (fC a b)) ∧ w = w':=Tryz.strings_Compare a b w |>.mono fun _ _ ⟨h1,h2⟩=>⟨h1,h2.symm⟩
set_option maxRecDepth 100000 in
set_option maxHeartbeats 8000000 in
theorem KR (l : List ByteArray) (f : Nat) (v : Value) (w : World) (h : bf w f v (.sl 1 l.length (l.flatMap Str.row))) :
    Calls Tryz.prog 212 #[v,.func (.func 205) #[] #[],.func (.func 98) #[] #[]] w fun e w'=>e = .returned (.bool (yes (nV l l.length))) ∧ Below w.heap.size w w':=by
  obtain ⟨A,c,rfl,hc,hm,hr,hz⟩:=Str.opened h;unfold maxLen at hm;obtain ⟨R,hR⟩ : ∃ R,yes (nV l l.length) = R:=⟨_,rfl⟩;rw [hR];have Hno : Hid (¬ nV l l.length → R = false):=fun h=>by rw [← hR]; exact aP h
  have aG : Hid (nV l l.length → R = true):=fun h=>by rw [← hR]; exact aQ h
  have Hr:=Lib.hid hr
  have Hz : Hid (∀ j (hj : j < l.length),l[j].size ≤ 9223372036854775807):=fun j hj=>by
    have:=hz _ (List.getElem_mem hj);unfold maxLen at this;omega
  clear h hr hz hR;go_enter Tryz.func212,Tryz.ntmps212;go_wp2_with fail
  go_loopw [11] (fun i wr=>∃ j : Nat,j ≤ l.length ∧ i = .int .i64 j ∧ Hid (nV l j) ∧ Below w.heap.size w wr) (fun i _=>l.length - (intOf i).toNat)
  case atStart=>exact ⟨0,Nat.zero_le _,rfl,fun i hi hj=>by omega,Below.refl _ _⟩
  case round=>
    obtain ⟨j,hj,rfl,hgood,hbel⟩:=hrel;have bg:=Lib.hid hbel;by_cases hlt : j < l.length
    · obtain ⟨g,o,rfl,hg,hc0⟩:=(Hr.out.below hbel).2 (by omega);have q0:=hc0 j hlt _ (bV l j hlt);have HV:=Lib.hid (E9 l[j] wr (Hz.out j hlt));by_cases hP : gG l[j]
      case neg=>
        have Hf:=Lib.hid (Hno.out fun h=>hP (h j hlt hlt).1);rw [aP hP] at HV;clear hP Hno aG hgood hc0 hg hbel;generalize l[j] = x at q0 HV;go_wp2_with fail;refine HV.out.mono ?_;rintro e w1 ⟨rfl,hb⟩;have G:=Lib.hid (ah bg.out hb bg.out.size);clear hb;go_wp2_with fail;go_ret;exact ⟨by rw [Hf.out]; rfl,G.out⟩
      rw [aQ hP] at HV;by_cases hz : j = 0
      · have Hg:=Lib.hid (pW hgood.out hlt hP (fun m hm=>by omega));have hn0 : ¬ (0 : Int) < (j : Int):=(by omega);have hn1 : ¬ 0 < j:=(by omega);clear hP Hno aG hgood hc0 hg hbel hz;generalize l[j] = x at q0 HV;go_wp2_with fail;refine HV.out.mono ?_;rintro e w1 ⟨rfl,hb⟩;have G:=Lib.hid (ah bg.out hb bg.out.size);clear hb;go_wp2_with fail
        go_roundw
        case rel=>exact ⟨j + 1,by omega,by go_num,Hg.out,G.out⟩
        case measure=>simp [intOf]; omega
      obtain ⟨m,hm⟩ : ∃ m,m + 1 = j:=⟨j - 1,by omega⟩;have hml : m < l.length:=(by omega);have r0:=hc0 m hml _ (bV l m hml);have P0:=Lib.hid (fun w' (hb : Below wr.heap.size wr w')=>(World.cell?_of_block (hb.block g hg)).trans r0);have HC:=Lib.hid (fun w'=>D7 l[m] l[j] w');have yZ : (j : Int) - 1 = (m : Int):=(by omega);have BN : IntKind.i64.wrap (m : Int) = (m : Int):=IntWalk.i64_in _ (by omega);have hm0 : (0 : Int) ≤ (m : Int):=(by omega);have hm1 : (m : Int) < (l.length : Int):=(by omega);have hjp : (0 : Int) < (j : Int):=(by omega);have Dw : 0 < j:=(by omega);have hb:=wZ l[m] l[j];by_cases hr : fC l[m] l[j] < 0
      · rw [decide_eq_true hr] at hb
        have Hg:=Lib.hid (pW hgood.out hlt hP (fun m' hm'=>by
          obtain rfl : m' = m:=(by omega);exact hb.symm))
        have hr0 : ¬ (0 : Int) ≤ fC l[m] l[j]:=(by omega);clear hP Hno aG hgood hc0 hbel hz hb r0 hg hm;generalize fC l[m] l[j] = r at HC hr0 hr;generalize l[j] = x at q0 HV HC;generalize l[m] = y at P0 HC;go_wp2_with fail;refine HV.out.mono ?_;rintro e w1 ⟨rfl,hb⟩;have r0:=P0.out w1 hb;have G:=Lib.hid (ah bg.out hb bg.out.size);clear hb;go_wp2_with fail;refine (HC.out _).mono ?_;rintro e w2 ⟨rfl,rfl⟩;go_wp2_with fail
        go_roundw
        case rel=>exact ⟨j + 1,by omega,by go_num,Hg.out,G.out⟩
        case measure=>simp [intOf]; omega
      · rw [decide_eq_false hr] at hb
        have Hf:=Lib.hid (Hno.out fun h=>by
          have:=(h j hlt hlt).2 m hm;rw [← hb] at this; cases this)
        have hr0 : (0 : Int) ≤ fC l[m] l[j]:=(by omega);clear hP Hno aG hgood hc0 hbel hz hb r0 hg hm;generalize fC l[m] l[j] = r at HC hr0 hr;generalize l[j] = x at q0 HV HC;generalize l[m] = y at P0 HC;go_wp2_with fail;refine HV.out.mono ?_;rintro e w1 ⟨rfl,hb⟩;have r0:=P0.out w1 hb;have G:=Lib.hid (ah bg.out hb bg.out.size);clear hb;go_wp2_with fail;refine (HC.out _).mono ?_;rintro e w2 ⟨rfl,rfl⟩;go_wp2_with fail;go_ret;exact ⟨by rw [Hf.out]; rfl,G.out⟩
    · obtain rfl : j = l.length:=(by omega);have Hf:=Lib.hid (aG.out hgood.out);clear hgood hbel;go_wp2_with fail;go_ret;exact ⟨by rw [Hf.out]; rfl,bg.out⟩
end need
namespace need
open Go.ChangeShapes Go.WideShapes Go.ChangeAt Go.RowKit ty lab
set_option maxRecDepth 100000 in
set_option maxHeartbeats 16000000 in
theorem KT (x : Need) (f : Nat) (vs : List Value) (w : World) (h : aH w f vs x.row) (hw : x.wt ≤ 1048576) :
    Calls Tryz.prog 173 #[.agg vs.toArray] w fun e w'=>e = .returned (.bool (yes (lU x))) ∧ Below w.heap.size w w':=by
  have hk1:=Nh x;have hv1:=sU x;obtain ⟨key,op,vals⟩:=x;obtain ⟨A2,c2,rfl,hwf,k2,m2,l2⟩:=Need.opened h;simp only [Need.Wf] at *;obtain ⟨w0,w1⟩:=hwf;obtain ⟨R,hR⟩ : ∃ R,yes (lU ⟨key,op,vals⟩) = R:=⟨_,rfl⟩;rw [hR];have Hno : Hid (¬ lU ⟨key,op,vals⟩ → R = false):=fun h=>by rw [← hR]; exact aP h
  have aG : Hid (lU ⟨key,op,vals⟩ → R = true):=fun h=>by rw [← hR]; exact aQ h
  have HB:=Lib.hid (AU.new 69 w [.string key,.int .i64 op,.slice A2 vals.length c2]);have HK:=Lib.hid (fun w=>E8 key w (by omega));have HA:=Lib.hid (fun w' (hb : Below w.heap.size w w')=>KR vals f _ w' (l2.below hb));have Wp : vals.length ≤ 1048576:=(by omega);unfold maxLen at m2;have p0:=HB.out.cell (j:=0) rfl;clear h l2 hR w0 hk1 hv1 hw;by_cases hK : gP key
  case neg=>
    have Hf:=Lib.hid (Hno.out fun h=>hK h.key);rw [aP hK] at HK;clear hK Hno aG HA;go_enter Tryz.func173,Tryz.ntmps173;go_wp2_with fail;refine (HK.out _).mono ?_;rintro e x1 ⟨rfl,hb⟩;have B1:=Lib.hid (HB.out.below hb);clear hb;go_wp2_with fail;go_ret;exact ⟨by rw [Hf.out]; rfl,B1.out.1⟩
  rw [aQ hK] at HK;by_cases h3 : op = 3 ∨ op = 4
  · by_cases hn : vals.length = 0
    · have Hf:=Lib.hid (aG.out ⟨hK,by simp only; omega,by simp only; omega,fun _=>hn,fun h=>by simp only at h; omega⟩);have en : ((vals.length : Int) == 0) = true:=(by rw [hn]; rfl);clear hK Hno aG HA hn;rcases h3 with rfl | rfl <;>
      · go_enter Tryz.func173,Tryz.ntmps173;go_wp2_with fail;refine (HK.out _).mono ?_;rintro e x1 ⟨rfl,hb⟩;have B1:=Lib.hid (HB.out.below hb);have p1:=B1.out.cell (j:=1) rfl;have p2:=B1.out.cell (j:=2) rfl;clear hb;go_wp2_with fail;go_ret;exact ⟨by rw [Hf.out]; rfl,B1.out.1⟩
    · have Hf:=Lib.hid (Hno.out fun h=>hn (h.none (by simp only; omega)));have en : ((vals.length : Int) == 0) = false:=(by rw [beq_eq_false_iff_ne]; omega);clear hK Hno aG HA hn;rcases h3 with rfl | rfl <;>
      · go_enter Tryz.func173,Tryz.ntmps173;go_wp2_with fail;refine (HK.out _).mono ?_;rintro e x1 ⟨rfl,hb⟩;have B1:=Lib.hid (HB.out.below hb);have p1:=B1.out.cell (j:=1) rfl;have p2:=B1.out.cell (j:=2) rfl;clear hb;go_wp2_with fail;go_ret;exact ⟨by rw [Hf.out]; rfl,B1.out.1⟩
  by_cases h2 : op = 1 ∨ op = 2
  case neg=>
    have Hf:=Lib.hid (Hno.out fun h=>by have:=h.lo; have:=h.hi; simp only at *; omega);have e1 : (op == 1) = false:=(by rw [beq_eq_false_iff_ne]; omega);have e2 : (op == 2) = false:=(by rw [beq_eq_false_iff_ne]; omega);have e3 : (op == 3) = false:=(by rw [beq_eq_false_iff_ne]; omega);have e4 : (op == 4) = false:=(by rw [beq_eq_false_iff_ne]; omega);clear hK Hno aG HA h3 h2;go_enter Tryz.func173,Tryz.ntmps173;go_wp2_with fail;refine (HK.out _).mono ?_;rintro e x1 ⟨rfl,hb⟩;have B1:=Lib.hid (HB.out.below hb);have p1:=B1.out.cell (j:=1) rfl;clear hb;go_wp2_with fail;go_ret;exact ⟨by rw [Hf.out]; rfl,B1.out.1⟩
  by_cases hn0 : vals.length = 0
  · have Hf:=Lib.hid (Hno.out fun h=>by have:=(h.some (by simp only; omega)).1; simp only at this; omega);have g0 : ¬ (0 : Int) < (vals.length : Int):=(by omega);have g1 : ¬ 0 < vals.length:=(by omega);clear hK Hno aG HA h3 hn0;rcases h2 with rfl | rfl <;>
    · go_enter Tryz.func173,Tryz.ntmps173;go_wp2_with fail;refine (HK.out _).mono ?_;rintro e x1 ⟨rfl,hb⟩;have B1:=Lib.hid (HB.out.below hb);have p1:=B1.out.cell (j:=1) rfl;have p2:=B1.out.cell (j:=2) rfl;clear hb;go_wp2_with fail;go_ret;exact ⟨by rw [Hf.out]; rfl,B1.out.1⟩
  have g0 : (0 : Int) < (vals.length : Int):=(by omega);have g1 : 0 < vals.length:=(by omega);by_cases hn4 : vals.length ≤ 4
  case neg=>
    have Hf:=Lib.hid (Hno.out fun h=>by have:=(h.some (by simp only; omega)).2.1; simp only at this; omega);have g2 : ¬ (vals.length : Int) ≤ 4:=(by omega);clear hK Hno aG HA h3 hn0;rcases h2 with rfl | rfl <;>
    · go_enter Tryz.func173,Tryz.ntmps173;go_wp2_with fail;refine (HK.out _).mono ?_;rintro e x1 ⟨rfl,hb⟩;have B1:=Lib.hid (HB.out.below hb);have p1:=B1.out.cell (j:=1) rfl;have p2:=B1.out.cell (j:=2) rfl;clear hb;go_wp2_with fail;go_ret;exact ⟨by rw [Hf.out]; rfl,B1.out.1⟩
  have g2 : (vals.length : Int) ≤ 4:=(by omega)
  have Hf : Hid (R = yes (nV vals vals.length)):=by
    by_cases hg : nV vals vals.length
    · rw [aQ hg];exact aG.out ⟨hK,by simp only; omega,by simp only; omega,fun h=>by simp only at h; omega,fun _=>⟨by simp only; omega,by simp only; omega,hg⟩⟩
    · rw [aP hg];exact Hno.out fun h=>hg (h.some (by simp only; omega)).2.2
  clear hK Hno aG h3 hn0;generalize yes (nV vals vals.length) = b at Hf HA;rcases h2 with rfl | rfl <;>
  · go_enter Tryz.func173,Tryz.ntmps173;go_wp2_with fail;refine (HK.out _).mono ?_;rintro e x1 ⟨rfl,hb⟩;have B1:=Lib.hid (HB.out.below hb);have p1:=B1.out.cell (j:=1) rfl;have p2:=B1.out.cell (j:=2) rfl;clear hb;go_wp2_with fail;refine (HA.out _ B1.out.1).mono ?_;rintro e x2 ⟨rfl,hb⟩;have B2:=Lib.hid (B1.out.below hb);clear hb;go_wp2_with fail;go_ret;exact ⟨by rw [Hf.out]; rfl,B2.out.1⟩
end need
namespace need
open Go.ChangeShapes Go.WideShapes Go.ChangeAt Go.RowKit ty lab
theorem N7 (x : ByteArray) : (x.toList == x.toList) = true:=beq_self_eq_true _
theorem isnan (x : ByteArray) (w : World) :
    Calls Tryz.prog 244 #[.string x] w fun e w'=>e = .returned (.bool false) ∧ w = w':=by
  have h1:=N7 x;go_enter Tryz.func244,Tryz.ntmps244;go_wp2_with fail;go_ret;exact ⟨rfl,rfl⟩
theorem KU (x y : ByteArray) (w : World) :
    Calls Tryz.prog 211 #[.string x,.string y] w fun e w'=>e = .returned (.int .i64 (fC x y)) ∧ w = w':=by
  have H1:=Lib.hid (isnan x);have H2:=Lib.hid (isnan y);have hbd:=Jq x.data.toList y.data.toList;have hw:=lT x y;unfold fC at hw;have hc : Lib.compareBytes x.data.toList y.data.toList = fC x y:=rfl;rw [← hc];clear hc;generalize Lib.compareBytes x.data.toList y.data.toList = r at hbd hw;rcases hw with ⟨h0,rfl⟩ | ⟨h0,_,h3⟩ | ⟨h0,hne,h3⟩
  · subst h0;have a1 : Op.bytesLess x.toList x.toList = false:=sQ x;clear hbd;go_enter Tryz.func211,Tryz.ntmps211;go_wp2_with fail;refine (H1.out _).mono ?_;rintro e w1 ⟨rfl,rfl⟩;go_wp2_with fail;refine (H2.out _).mono ?_;rintro e w1 ⟨rfl,rfl⟩;go_wp2_with fail;go_ret;exact ⟨rfl,rfl⟩
  · obtain rfl : r = -1:=(by omega);have a1 : Op.bytesLess x.toList y.toList = true:=h3;clear hbd h3 h0;go_enter Tryz.func211,Tryz.ntmps211;go_wp2_with fail;refine (H1.out _).mono ?_;rintro e w1 ⟨rfl,rfl⟩;go_wp2_with fail;refine (H2.out _).mono ?_;rintro e w1 ⟨rfl,rfl⟩;go_wp2_with fail;go_ret;exact ⟨rfl,rfl⟩
  · obtain rfl : r = 1:=(by omega);have a1 : Op.bytesLess x.toList y.toList = false:=h3
    have a2 : Op.bytesLess y.toList x.toList = true:=by
      cases h : Op.bytesLess y.toList x.toList with
      | true=>rfl
      | false=>exact absurd (mV a1 h) hne
    have a3:=dH hne;clear hbd h3 h0 hne;go_enter Tryz.func211,Tryz.ntmps211;go_wp2_with fail;refine (H1.out _).mono ?_;rintro e w1 ⟨rfl,rfl⟩;go_wp2_with fail;refine (H2.out _).mono ?_;rintro e w1 ⟨rfl,rfl⟩;go_wp2_with fail;go_ret;exact ⟨rfl,rfl⟩
set_option maxRecDepth 100000 in
set_option maxHeartbeats 4000000 in
theorem KV (a b : List ByteArray) (f1 f2 : Nat) (v1 v2 : Value) (w : World) (h1 : bf w f1 v1 (.sl 1 a.length (a.flatMap Str.row))) (h2 : bf w f2 v2 (.sl 1 b.length (b.flatMap Str.row))) :
    Calls Tryz.prog 171 #[v1,v2] w fun e w'=>e = .returned (.int .i64 (qI a b)) ∧ w = w':=by
  obtain ⟨A1,c1,rfl,hc1,hm1,hr1,_⟩:=Str.opened h1;obtain ⟨A2,c2,rfl,hc2,hm2,hr2,_⟩:=Str.opened h2;unfold maxLen at hm1 hm2;obtain ⟨R,hR⟩ : ∃ R,qI a b = R:=⟨_,rfl⟩;rw [hR];have PU : Hid (∀ k (h1 : k < a.length) (h2 : k < b.length),(∀ j (hj : j < k),(a[j]'(by omega)) = (b[j]'(by omega))) → fC a[k] b[k] ≠ 0 → R = fC a[k] b[k]):=fun k h1 h2 h3 h4=>by rw [← hR]; exact JO h1 h2 h3 h4
  have KW : Hid ((∀ j (h1 : j < a.length) (h2 : j < b.length),a[j] = b[j]) → R = if b.length < a.length then 1 else if a.length < b.length then -1 else 0):=fun h=>by rw [← hR]; exact Ga h
  have TG:=Lib.hid hr1;have Hr2:=Lib.hid hr2;clear h1 h2 hr1 hr2 hR;go_enter Tryz.func171,Tryz.ntmps171;go_wp2_with fail;go_loop [11] (fun i=>∃ j : Nat,j ≤ a.length ∧ i = .int .i64 j ∧ j ≤ b.length ∧ Hid (∀ q (h1 : q < a.length) (h2 : q < b.length),q < j → a[q] = b[q])) (fun i=>a.length - (intOf i).toNat)
  case atStart=>exact ⟨0,Nat.zero_le _,rfl,Nat.zero_le _,fun q _ _ hq=>by omega⟩
  case round=>
    obtain ⟨j,hj,rfl,hjb,hall⟩:=hrel;by_cases hlt : j < a.length
    · obtain ⟨g1,o1,rfl,hg1,QT⟩:=TG.out.2 (by omega);have q0:=QT j hlt _ (bV a j hlt);by_cases hlb : j < b.length
      · obtain ⟨g2,o2,rfl,hg2,WU⟩:=Hr2.out.2 (by omega);have q1:=WU j hlb _ (bV b j hlb);have n1 : ¬ (b.length : Int) ≤ (j : Int):=(by omega);have HC:=Lib.hid (KU a[j] b[j]);by_cases hz : fC a[j] b[j] = 0
        · have Hn : Hid (∀ q (h1 : q < a.length) (h2 : q < b.length),q < j + 1 → a[q] = b[q]):=fun q h1 h2 hq=>by
            by_cases e : q = j
            · subst e; exact BS hz
            · exact hall.out q h1 h2 (by omega)
          rw [hz] at HC;clear hz PU KW hall QT WU hg1 hg2;generalize a[j] = x at q0 HC;generalize b[j] = y at q1 HC;go_wp2_with fail;refine (HC.out _).mono ?_;rintro e w1 ⟨rfl,rfl⟩;go_wp2_with fail;go_round
          case rel=>exact ⟨j + 1,by omega,by go_num,by omega,Hn.out⟩
          case measure=>simp [intOf]; omega
        · have Hf:=Lib.hid (PU.out j hlt hlb (fun q hq=>hall.out q (by omega) (by omega) hq) hz);have hne : (fC a[j] b[j] != 0) = true:=bne_iff_ne.2 hz;clear hz PU KW hall QT WU hg1 hg2;generalize fC a[j] b[j] = r at HC Hf hne;generalize a[j] = x at q0 HC;generalize b[j] = y at q1 HC;go_wp2_with fail;refine (HC.out _).mono ?_;rintro e w1 ⟨rfl,rfl⟩;go_wp2_with fail;go_ret;exact ⟨by rw [Hf.out]; rfl,rfl⟩
      · obtain rfl : j = b.length:=(by omega);have Hf:=Lib.hid (KW.out (fun q h1 h2=>hall.out q h1 h2 h2));rw [if_pos hlt] at Hf;have n1 : (b.length : Int) ≤ (b.length : Int):=Int.le_refl _;clear PU KW hall QT hg1;generalize a[b.length] = x at q0;go_wp2_with fail;go_ret;exact ⟨by rw [Hf.out]; rfl,rfl⟩
    · obtain rfl : j = a.length:=(by omega);have Hf:=Lib.hid (KW.out (fun q h1 h2=>hall.out q h1 h2 h1));rw [if_neg (by omega)] at Hf;clear PU KW hall;by_cases hl : a.length < b.length
      · rw [if_pos hl] at Hf;have n2 : (a.length : Int) < (b.length : Int):=(by omega);go_wp2_with fail;go_ret;exact ⟨by rw [Hf.out]; rfl,rfl⟩
      · rw [if_neg hl] at Hf;have n2 : ¬ (a.length : Int) < (b.length : Int):=(by omega);go_wp2_with fail;go_ret;exact ⟨by rw [Hf.out]; rfl,rfl⟩
end need
namespace need
open Go.ChangeShapes Go.WideShapes Go.ChangeAt Go.RowKit ty lab
def PV : List Int → Int
  | []=>0
  | a :: r=>if a = 0 then PV r else a
theorem N8 : ∀ {l : List Int} {k : Nat} (h : k < l.length),(∀ j (hj : j < k),(l[j]'(by omega)) = 0) → l[k] ≠ 0 → PV l = l[k]
  | [],_,h,_,_=>by simp at h
  | a :: r,0,_,_,hne=>by rw [PV,if_neg (by simpa using hne)]; rfl
  | a :: r,k + 1,h,hz,hne=>by
    have h0 : a = 0:=hz 0 (by omega);rw [PV,if_pos h0,List.getElem_cons_succ];exact N8 (k:=k) (by simpa using h) (fun j hj=>by have:=hz (j + 1) (by omega); simpa using this) (by simpa using hne)
theorem Gd : ∀ {l : List Int},(∀ j (hj : j < l.length),l[j] = 0) → PV l = 0
  | [],_=>rfl
  | a :: r,h=>by
    have h0 : a = 0:=h 0 (by simp);rw [PV,if_pos h0];exact Gd fun j hj=>by have:=h (j + 1) (by simpa using hj); simpa using this
theorem xB (a b c : Int) : PV [a,b,c] = Jp a b c:=by
  unfold Jp;simp only [PV]
  split
  · split
    · split
      · next h=>exact h.symm
      · rfl
    · rfl
  · rfl
set_option maxRecDepth 100000 in
theorem D8 (l : List Int) (A : Option Addr) (c : Nat) (w : World) (hn : l.length ≤ 1000) (h : Rd w A l.length (iP l)) :
    Calls Tryz.prog 169 #[.slice A l.length c] w fun e w'=>e = .returned (.int .i64 (PV l)) ∧ w = w':=by
  obtain ⟨R,hR⟩ : ∃ R,PV l = R:=⟨_,rfl⟩;rw [hR];have PU : Hid (∀ k (h : k < l.length),(∀ j (hj : j < k),(l[j]'(by omega)) = 0) → l[k] ≠ 0 → R = l[k]):=fun k h1 h2 h3=>by rw [← hR]; exact N8 h1 h2 h3
  have Hno : Hid ((∀ j (hj : j < l.length),l[j] = 0) → R = 0):=fun h=>by rw [← hR]; exact Gd h
  have Hr:=Lib.hid h;clear h hR;go_enter Tryz.func169,Tryz.ntmps169;go_wp2_with fail;go_loop [8] (fun i=>∃ j : Nat,j ≤ l.length ∧ i = .int .i64 j ∧ Hid (∀ q (h1 : q < l.length),q < j → l[q] = 0)) (fun i=>l.length - (intOf i).toNat)
  case atStart=>exact ⟨0,Nat.zero_le _,rfl,fun q _ hq=>by omega⟩
  case round=>
    obtain ⟨j,hj,rfl,hall⟩:=hrel;by_cases hlt : j < l.length
    · obtain ⟨g,o,rfl,hg,hc⟩:=Hr.out.2 (by omega);have q0:=hc j hlt _ (uF l j hlt);rw [show l.getD j 0 = l[j] by rw [List.getD_eq_getElem?_getD,List.getElem?_eq_getElem hlt]; rfl] at q0;by_cases hz : l[j] = 0
      · have Hn : Hid (∀ q (h1 : q < l.length),q < j + 1 → l[q] = 0):=fun q h1 hq=>by
          by_cases e : q = j
          · subst e; exact hz
          · exact hall.out q h1 (by omega)
        rw [hz] at q0;clear hz PU Hno hall hc hg;go_wp2_with fail;go_round
        case rel=>exact ⟨j + 1,by omega,by go_num,Hn.out⟩
        case measure=>simp [intOf]; omega
      · have Hf:=Lib.hid (PU.out j hlt (fun q hq=>hall.out q (by omega) hq) hz);have hne : (l[j] != 0) = true:=bne_iff_ne.2 hz;clear hz PU Hno hall hc hg;generalize l[j] = x at q0 Hf hne;go_wp2_with fail;go_ret;exact ⟨by rw [Hf.out]; rfl,rfl⟩
    · obtain rfl : j = l.length:=(by omega);have Hf:=Lib.hid (Hno.out (fun q h1=>hall.out q h1 h1));clear PU Hno hall;go_wp2_with fail;go_ret;exact ⟨by rw [Hf.out]; rfl,rfl⟩
theorem dI {a b : World} {p : Addr} {v : Value} (h : a.cell? p = some v) (g : Gr a b) : b.cell? p = some v:=(World.cell?_of_block (g.below.block _ (World.block_lt_of_cell? _ _ h))).trans h
theorem zT (w : World) (a b c : Int) (t : TypeId) : Rd (w.alloc (.cells #[.int .i64 a,.int .i64 b,.int .i64 c] t)) (some ⟨w.heap.size,0,none⟩) 3 (iP [a,b,c]):=by
  refine ⟨rfl,fun _=>⟨_,_,rfl,by simp,fun j hj u hu=>?_⟩⟩;rw [Nat.zero_add,cell_of_row _ _ _ _ _ _ (heap_alloc_new w _)];simpa [iP] using hu
end need
namespace need
open Go.ChangeShapes Go.WideShapes Go.ChangeAt Go.RowKit ty lab
def JQ (w : World) (u0 u1 u2 v0 v1 v2 : Value) (w' : World) : Prop:=Gr w w' ∧ w'.cell? ⟨w.heap.size,0,none⟩ = some u0 ∧ w'.cell? ⟨w.heap.size,1,none⟩ = some u1 ∧ w'.cell? ⟨w.heap.size,2,none⟩ = some u2 ∧ w'.cell? ⟨w.heap.size + 1,0,none⟩ = some v0 ∧ w'.cell? ⟨w.heap.size + 1,1,none⟩ = some v1 ∧ w'.cell? ⟨w.heap.size + 1,2,none⟩ = some v2
theorem JQ.keep {w a b : World} {u0 u1 u2 v0 v1 v2 : Value} (h : JQ w u0 u1 u2 v0 v1 v2 a) (g : Gr a b) : JQ w u0 u1 u2 v0 v1 v2 b:=
  ⟨h.1.trans g,dI h.2.1 g,dI h.2.2.1 g,dI h.2.2.2.1 g,dI h.2.2.2.2.1 g,dI h.2.2.2.2.2.1 g,dI h.2.2.2.2.2.2 g⟩
set_option maxRecDepth 100000 in
set_option maxHeartbeats 8000000 in
theorem Ea (x y : Need) (f1 f2 : Nat) (us vs : List Value) (w : World) (h1 : aH w f1 us x.row) (h2 : aH w f2 vs y.row) :
    Calls Tryz.prog 100 #[.agg us.toArray,.agg vs.toArray] w fun e w'=>e = .returned (.int .i64 (qJ x y)) ∧ Gr w w':=by
  obtain ⟨k1,o1,l1⟩:=x;obtain ⟨k2,o2,l2⟩:=y;obtain ⟨A1,c1,rfl,_,n1,m1,r1⟩:=Need.opened h1;obtain ⟨A2,c2,rfl,_,n2,m2,r2⟩:=Need.opened h2;unfold qJ;simp only at *;obtain ⟨W,hW⟩ : ∃ W,W = (w.alloc (.cells #[.string k1,.int .i64 o1,.slice A1 l1.length c1] 69)).alloc (.cells #[.string k2,.int .i64 o2,.slice A2 l2.length c2] 69):=⟨_,rfl⟩;have hgr : Gr w W:=(by rw [hW]; exact ((Gr.refl w).alloc _).alloc _)
  have hb1 : W.heap[w.heap.size]? = some (.cells #[.string k1,.int .i64 o1,.slice A1 l1.length c1] 69 (0,0)):=by
    rw [hW,Below.heap_alloc _ _ _ (by simp)];exact heap_alloc_new w _
  have hb2 : W.heap[w.heap.size + 1]? = some (.cells #[.string k2,.int .i64 o2,.slice A2 l2.length c2] 69 (0,0)):=by
    rw [hW];have h:=heap_alloc_new (w.alloc (.cells #[.string k1,.int .i64 o1,.slice A1 l1.length c1] 69)) (.cells #[.string k2,.int .i64 o2,.slice A2 l2.length c2] 69);simpa using h
  have p0 : W.cell? ⟨w.heap.size,0,none⟩ = some (.string k1):=(by rw [cell_of_row _ _ _ _ _ _ hb1]; rfl);have p1 : W.cell? ⟨w.heap.size,1,none⟩ = some (.int .i64 o1):=(by rw [cell_of_row _ _ _ _ _ _ hb1]; rfl);have p2 : W.cell? ⟨w.heap.size,2,none⟩ = some (.slice A1 l1.length c1):=(by rw [cell_of_row _ _ _ _ _ _ hb1]; rfl);have q0 : W.cell? ⟨w.heap.size + 1,0,none⟩ = some (.string k2):=(by rw [cell_of_row _ _ _ _ _ _ hb2]; rfl);have q1 : W.cell? ⟨w.heap.size + 1,1,none⟩ = some (.int .i64 o2):=(by rw [cell_of_row _ _ _ _ _ _ hb2]; rfl);have q2 : W.cell? ⟨w.heap.size + 1,2,none⟩ = some (.slice A2 l2.length c2):=(by rw [cell_of_row _ _ _ _ _ _ hb2]; rfl);have HS:=Lib.hid (fun w'=>Tryz.strings_Compare k1 k2 w');have HI:=Lib.hid (fun w'=>arith.rH o1 o2 w');have HV:=Lib.hid (fun w' (hg : Below w.heap.size w w')=>KV l1 l2 f1 f2 _ _ w' (r1.below hg) (r2.below hg));have hcB : Lib.compareBytes k1.data.toList k2.data.toList = fC k1 k2:=rfl;rw [hcB] at HS;generalize fC k1 k2 = a at HS;generalize arith.qE o1 o2 = b at HI;generalize qI l1 l2 = c at HV
  have HO:=Lib.hid (show Calls Tryz.prog 169 #[.slice (some ⟨W.heap.size,0,none⟩) 3 3] (W.alloc (.cells #[.int .i64 a,.int .i64 b,.int .i64 c] 3)).drew fun e w'=>e = .returned (.int .i64 (Jp a b c)) ∧ (W.alloc (.cells #[.int .i64 a,.int .i64 b,.int .i64 c] 3)).drew = w' by
    rw [← xB];exact D8 [a,b,c] (some ⟨W.heap.size,0,none⟩) 3 _ (by simp) ((zT W a b c _).drewN 1))
  have nI:=Lib.hid hgr;have HW:=Lib.hid hW;clear h1 h2 r1 r2 hgr hb1 hb2 hcB;go_enter Tryz.func100,Tryz.ntmps100;go_wp2_with fail;rw [← hW];clear hW;have h6 : JQ w (.string k1) (.int .i64 o1) (.slice A1 l1.length c1) (.string k2) (.int .i64 o2) (.slice A2 l2.length c2) W:=⟨nI.out,p0,p1,p2,q0,q1,q2⟩;clear p0 p1 p2 q0 q1 q2 HW;have H6:=Lib.hid h6;clear h6;go_region_held3 (fun w'=>Gr w w' ∧ w'.cell? ⟨w.heap.size,0,none⟩ = some (.string k1) ∧ w'.cell? ⟨w.heap.size,1,none⟩ = some (.int .i64 o1) ∧ w'.cell? ⟨w.heap.size,2,none⟩ = some (.slice A1 l1.length c1) ∧ w'.cell? ⟨w.heap.size + 1,0,none⟩ = some (.string k2) ∧ w'.cell? ⟨w.heap.size + 1,1,none⟩ = some (.int .i64 o2) ∧ w'.cell? ⟨w.heap.size + 1,2,none⟩ = some (.slice A2 l2.length c2)) (first | assumption | exact H6.out.keep (Gr.refl _).drew | exact JQ.keep (by assumption) ((Gr.refl _).alloc _) | exact JQ.keep (by assumption) (by assumption)) (first | (go_at_call 98; refine (HS.out _).mono ?_; rintro e w1 ⟨rfl,rfl⟩) | (go_at_call 170; refine (HI.out _).mono ?_; rintro e w1 ⟨rfl,rfl⟩) | (go_at_call 171; refine (HV.out _ (And.left (by assumption : JQ w _ _ _ _ _ _ _)).below).mono ?_; rintro e w1 ⟨rfl,rfl⟩) | (go_at_call 169; refine HO.out.mono ?_; rintro e w1 ⟨rfl,rfl⟩))
  all_goals
    go_wp2_with fail;go_ret;exact ⟨rfl,(nI.out.alloc _).drew⟩
end need
end Go.Proofs.YtcfbkfmkjggcdaaGreatDoor
