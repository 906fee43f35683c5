/- Merged: CmpBM TaintC Box2 TaintS OksTaintS InTaintI SumD TyHost NsM ToLabel ToLabelS ToTaint ToTaintS. -/
import Derived.Test.YtcfbkfmkjggcdaaGreatDoorGA6
import Derived.Test.YtcfbkfmkjggcdaaGreatDoorGA1
import Derived.Lib.Bytealg
import Derived.Test.YtcfbkfmkjggcdaaGreatDoorGA8
import Derived.Test.YtcfbkfmkjggcdaaGreatDoorGA4
import Derived.Laws.Cover1
import Derived.Test.YtcfbkfmkjggcdaaGreatDoorGA7
import Derived.Test.YtcfbkfmkjggcdaaGreatDoorRows
import Derived.ProofKit
import Derived.Deep.WholeRow
import Derived.Test.YtcfbkfmkjggcdaaGreatDoorGA0
import Derived.OpenShut
import Derived.OwnWalk
set_option linter.unusedVariables false
namespace Go.Proofs.YtcfbkfmkjggcdaaGreatDoor
namespace need
open Go Go.RowKit ty lab
def fC (a b : ByteArray) : Int:=Lib.compareBytes a.data.toList b.data.toList
theorem BP : ∀ a b : List UInt8,decide (Lib.compareBytes a b < 0) = Op.bytesLess a b
  | [],[]=>rfl
  | [],_ :: _=>rfl
  | _ :: _,[]=>rfl
  | a :: x,b :: y=>by
    rw [Lib.compareBytes,Op.bytesLess];by_cases h1 : a < b
    · simp [h1]
    · rw [if_neg h1];by_cases h2 : b < a
      · rw [if_pos h2];have : (a == b) = false:=(by rw [beq_eq_false_iff_ne]; rintro rfl; exact h1 h2);simp [h1,this]
      · rw [if_neg h2,BP x y]
        obtain rfl : a = b:=by
          rw [UInt8.lt_iff_toNat_lt] at h1 h2;exact UInt8.toNat_inj.1 (by omega)
        simp [h1]
theorem BQ : ∀ a b : List UInt8,Lib.compareBytes a b = 0 → a = b
  | [],[],_=>rfl
  | [],_ :: _,h=>by simp [Lib.compareBytes] at h
  | _ :: _,[],h=>by simp [Lib.compareBytes] at h
  | a :: x,b :: y,h=>by
    rw [Lib.compareBytes] at h;by_cases h1 : a < b
    · rw [if_pos h1] at h; cases h
    · rw [if_neg h1] at h;by_cases h2 : b < a
      · rw [if_pos h2] at h; cases h
      · rw [if_neg h2] at h;rw [UInt8.lt_iff_toNat_lt] at h1 h2;obtain rfl : a = b:=UInt8.toNat_inj.1 (by omega);rw [BQ x y h]
theorem BR : ∀ a : List UInt8,Lib.compareBytes a a = 0
  | []=>rfl
  | a :: x=>by
    have : ¬ a < a:=fun h=>by rw [UInt8.lt_iff_toNat_lt] at h; omega
    rw [Lib.compareBytes,if_neg this,if_neg this,BR x]
theorem wZ (a b : ByteArray) : decide (fC a b < 0) = aJ a b:=by
  unfold fC aJ;rw [BP,ByteArray.toList_eq,ByteArray.toList_eq]
theorem BS {a b : ByteArray} (h : fC a b = 0) : a = b:=by
  have:=BQ _ _ h;apply ByteArray.ext;exact Array.ext' this
theorem sJ (a : ByteArray) : fC a a = 0:=BR _
theorem lT (a b : ByteArray) : fC a b = 0 ∧ a = b ∨ fC a b < 0 ∧ a ≠ b ∧ aJ a b = true ∨ 0 < fC a b ∧ a ≠ b ∧ aJ a b = false:=by
  have h:=wZ a b;rcases Int.lt_trichotomy (fC a b) 0 with h1 | h1 | h1
  · exact .inr (.inl ⟨h1,fun e=>by subst e; rw [sJ] at h1; omega,by rw [← h]; exact decide_eq_true h1⟩)
  · exact .inl ⟨h1,BS h1⟩
  · exact .inr (.inr ⟨h1,fun e=>by subst e; rw [sJ] at h1; omega,by rw [← h]; exact decide_eq_false (by omega)⟩)
def Jp (a b c : Int) : Int:=if a = 0 then (if b = 0 then c else b) else a
theorem Jq : ∀ a b : List UInt8,-1 ≤ Lib.compareBytes a b ∧ Lib.compareBytes a b ≤ 1
  | [],[]=>by simp [Lib.compareBytes]
  | [],_ :: _=>by simp [Lib.compareBytes]
  | _ :: _,[]=>by simp [Lib.compareBytes]
  | a :: x,b :: y=>by
    rw [Lib.compareBytes];by_cases h1 : a < b
    · rw [if_pos h1]; omega
    · rw [if_neg h1];by_cases h2 : b < a
      · rw [if_pos h2]; omega
      · rw [if_neg h2]; exact Jq x y
end need
section
open Go Go.RowKit
namespace taint
open ty lab need
def zu (a b : av) : Int:=Jp (fC a.key b.key) (fC a.value b.value) (arith.qE a.effect b.effect)
theorem ET (a b : Int) : (arith.qE a b = 0 ∧ a = b) ∨ (arith.qE a b < 0 ∧ a < b) ∨ (0 < arith.qE a b ∧ b < a):=by
  unfold arith.qE;by_cases h : a < b
  · rw [if_pos h]; omega
  · rw [if_neg h];by_cases h2 : b < a
    · rw [if_pos h2]; omega
    · rw [if_neg h2]; omega
theorem Qj : iK zu bA:=fun a b=>by
  obtain ⟨k1,v1,e1⟩:=a;obtain ⟨k2,v2,e2⟩:=b;unfold zu bA Jp;simp only;rcases lT k1 k2 with ⟨h1,h2⟩ | ⟨h1,h2,h3⟩ | ⟨h1,h2,h3⟩
  · rw [if_pos h1,if_pos h2];subst h2;rcases lT v1 v2 with ⟨g1,g2⟩ | ⟨g1,g2,g3⟩ | ⟨g1,g2,g3⟩
    · rw [if_pos g1,if_pos g2];subst g2;rcases ET e1 e2 with ⟨f1,f2⟩ | ⟨f1,f2⟩ | ⟨f1,f2⟩
      · exact .inl ⟨f1,by rw [f2]⟩
      · exact .inr (.inl ⟨f1,fun e=>by injection e; omega,decide_eq_true f2⟩)
      · exact .inr (.inr ⟨f1,fun e=>by injection e; omega,decide_eq_false (by omega)⟩)
    · rw [if_neg (by omega),if_neg g2];exact .inr (.inl ⟨g1,fun e=>by injection e; exact g2 (by assumption),g3⟩)
    · rw [if_neg (by omega),if_neg g2];exact .inr (.inr ⟨g1,fun e=>by injection e; exact g2 (by assumption),g3⟩)
  · rw [if_neg (by omega),if_neg h2];exact .inr (.inl ⟨h1,fun e=>by injection e; exact h2 (by assumption),h3⟩)
  · rw [if_neg (by omega),if_neg h2];exact .inr (.inr ⟨h1,fun e=>by injection e; exact h2 (by assumption),h3⟩)
def MX (a b : Bool) : Int:=if a = b then 0 else if b = true then -1 else 1
theorem MZ (a b : Bool) : (MX a b = 0 ∧ a = b) ∨ (MX a b < 0 ∧ a ≠ b ∧ b = true) ∨ (0 < MX a b ∧ a ≠ b ∧ b = false):=by
  cases a <;> cases b <;> decide
def zw (a b : aj) : Int:=Jp (fC a.key b.key) (MX a.equal b.equal) (Jp (fC a.key b.key) (fC a.value b.value) (arith.qE a.effect b.effect))
theorem Qk : iK zw bU:=fun a b=>by
  obtain ⟨k1,q1,v1,e1⟩:=a;obtain ⟨k2,q2,v2,e2⟩:=b;unfold zw bU DI wY Jp;simp only;rcases lT k1 k2 with ⟨h1,h2⟩ | ⟨h1,h2,h3⟩ | ⟨h1,h2,h3⟩
  · rw [if_pos h1,if_pos h2];subst h2;rcases MZ q1 q2 with ⟨y1,y2⟩ | ⟨y1,y2,y3⟩ | ⟨y1,y2,y3⟩
    · rw [if_pos y1,if_pos y2];subst y2;rcases lT v1 v2 with ⟨g1,g2⟩ | ⟨g1,g2,g3⟩ | ⟨g1,g2,g3⟩
      · rw [if_pos h1,if_pos g1,if_pos g2];subst g2;rcases ET e1 e2 with ⟨f1,f2⟩ | ⟨f1,f2⟩ | ⟨f1,f2⟩
        · exact .inl ⟨f1,by rw [f2]⟩
        · exact .inr (.inl ⟨f1,fun e=>by injection e; omega,decide_eq_true f2⟩)
        · exact .inr (.inr ⟨f1,fun e=>by injection e; omega,decide_eq_false (by omega)⟩)
      · rw [if_pos h1,if_neg (by omega),if_neg g2];exact .inr (.inl ⟨g1,fun e=>by injection e; exact g2 (by assumption),g3⟩)
      · rw [if_pos h1,if_neg (by omega),if_neg g2];exact .inr (.inr ⟨g1,fun e=>by injection e; exact g2 (by assumption),g3⟩)
    · rw [if_neg (by omega),if_neg y2];exact .inr (.inl ⟨y1,fun e=>by injection e; exact y2 (by assumption),y3⟩)
    · rw [if_neg (by omega),if_neg y2];exact .inr (.inr ⟨y1,fun e=>by injection e; exact y2 (by assumption),y3⟩)
  · rw [if_neg (by omega),if_neg h2];exact .inr (.inl ⟨h1,fun e=>by injection e; exact h2 (by assumption),h3⟩)
  · rw [if_neg (by omega),if_neg h2];exact .inr (.inr ⟨h1,fun e=>by injection e; exact h2 (by assumption),h3⟩)
end taint
end
namespace need
open Go Go.RowKit
def oQ (e : TypeId) (w : World) (us vs : List Value) (w' : World) : Prop:=AU e w us w' ∧ w'.heap[w.heap.size + 1]? = some (.cells vs.toArray e (0,0))
theorem oQ.new (e : TypeId) (w : World) (us vs : List Value) : oQ e w us vs ((w.alloc (.cells us.toArray e)).alloc (.cells vs.toArray e)):=by
  refine ⟨(AU.new e w us).below ((Below.refl _ _).alloc (Nat.le_refl _) _),?_⟩;have h:=heap_alloc_new (w.alloc (.cells us.toArray e)) (.cells vs.toArray e);simpa using h
theorem oQ.below {e : TypeId} {w a b : World} {us vs : List Value} (h : oQ e w us vs a) (k : Below a.heap.size a b) : oQ e w us vs b:=⟨h.1.below k,eX k (aX h.2) h.2⟩
theorem oQ.cell1 {e : TypeId} {w a : World} {us vs : List Value} (h : oQ e w us vs a) {j : Nat} {u : Value} (hj : us[j]? = some u) : a.cell? ⟨w.heap.size,j,none⟩ = some u:=h.1.cell hj
theorem oQ.fO {e : TypeId} {w a : World} {us vs : List Value} (h : oQ e w us vs a) {j : Nat} {u : Value} (hj : vs[j]? = some u) : a.cell? ⟨w.heap.size + 1,j,none⟩ = some u:=by
  rw [cell_of_row a _ j _ _ _ h.2];simpa using hj
end need
namespace taint
open Go.ChangeShapes Go.WideShapes Go.ChangeAt Go.RowKit ty lab need
theorem M0 (p q r : Prop) : yes (p ∧ q ∧ r) = (yes p && (yes q && yes r)):=by
  by_cases hp : p
  · by_cases hq : q
    · by_cases hr : r
      · rw [aQ hp,aQ hq,aQ hr,aQ ⟨hp,hq,hr⟩]; rfl
      · rw [aQ hp,aQ hq,aP hr,aP fun h=>hr h.2.2]; rfl
    · rw [aQ hp,aP hq,aP fun h=>hq h.2.1]; rfl
  · rw [aP hp,aP fun h=>hp h.1]; rfl
theorem DJ (n : Int) (w : World) (a b : Int) : Calls Tryz.prog 53 #[.int .i64 n,.int .i64 a,.int .i64 b] w fun e w'=>e = .returned (.bool (yes (a ≤ n ∧ n ≤ b))) ∧ w = w':=by
  by_cases hE : a ≤ n ∧ n ≤ b
  · rw [aQ hE]; exact arith.Dm n a b w hE.1 hE.2
  · rw [aP hE]; exact arith.Jk n a b w (by omega)
set_option maxRecDepth 100000 in
set_option maxHeartbeats 8000000 in
theorem Hu (x : av) (w : World) (hz : x.wt ≤ 1048576) :
    Calls Tryz.prog 124 #[.agg #[.string x.key,.string x.value,.int .i64 x.effect]] w fun e w'=>e = .returned (.bool (yes (iX x))) ∧ Below w.heap.size w w':=by
  unfold av.wt at hz;obtain ⟨k,a,n⟩:=x;simp only at *;rw [show yes (iX ⟨k,a,n⟩) = yes (gP k ∧ gG a ∧ (1 ≤ n ∧ n ≤ 2)) from by congr 1; exact propext ⟨fun h=>⟨h.key,h.value,h.lo,h.hi⟩,fun h=>⟨h.1,h.2.1,h.2.2.1,h.2.2.2⟩⟩,M0];have HK:=Lib.hid (fun w'=>vC k w' (by omega));have HV:=Lib.hid (fun w'=>vD a w' (by omega));have HI:=Lib.hid (fun w'=>DJ n w' 1 2);have Hb0:=Lib.hid (fun (o : Obj) n=>below_drewN ((Below.refl w.heap.size w).alloc (Nat.le_refl _) o) n);clear hz;generalize yes (gP k) = b1 at HK ⊢;generalize yes (gG a) = b2 at HV ⊢;generalize yes (1 ≤ n ∧ n ≤ 2) = b3 at HI ⊢;cases b1 with
  | false=>
    go_enter Tryz.func124,Tryz.ntmps124;go_wp2_with fail;refine (HK.out _).mono ?_;rintro e w1 ⟨rfl,n1,rfl⟩;go_wp2_with fail;go_ret;exact ⟨rfl,Hb0.out _ _⟩
  | true=>
  cases b2 with
  | false=>
    go_enter Tryz.func124,Tryz.ntmps124;go_wp2_with fail;refine (HK.out _).mono ?_;rintro e w1 ⟨rfl,n1,rfl⟩;go_wp2_with fail;refine (HV.out _).mono ?_;rintro e w1 ⟨rfl,n2,rfl⟩;go_wp2_with fail;go_ret;exact ⟨rfl,by simpa using Hb0.out _ _⟩
  | true=>
    go_enter Tryz.func124,Tryz.ntmps124;go_wp2_with fail;refine (HK.out _).mono ?_;rintro e w1 ⟨rfl,n1,rfl⟩;go_wp2_with fail;refine (HV.out _).mono ?_;rintro e w1 ⟨rfl,n2,rfl⟩;go_wp2_with fail;refine (HI.out _).mono ?_;rintro e w1 ⟨rfl,rfl⟩;go_wp2_with fail;go_ret;exact ⟨by cases b3 <;> rfl,by simpa using Hb0.out _ _⟩
theorem Kr {a b : av} (h : ¬ a.key = b.key) : bA a b = aJ a.key b.key:=by unfold bA; rw [if_neg h]
theorem Kt {a b : av} (h : a.key = b.key) (h2 : ¬ a.value = b.value) : bA a b = aJ a.value b.value:=by unfold bA; rw [if_pos h,if_neg h2]
theorem Ku {a b : av} (h : a.key = b.key) (h2 : a.value = b.value) : bA a b = decide (a.effect < b.effect):=by unfold bA; rw [if_pos h,if_pos h2]
set_option maxRecDepth 100000 in
set_option maxHeartbeats 16000000 in
theorem zA (x y : av) (w : World) :
    Calls Tryz.prog 114 #[.agg #[.string x.key,.string x.value,.int .i64 x.effect],.agg #[.string y.key,.string y.value,.int .i64 y.effect]] w fun e w'=>e = .returned (.bool (bA x y)) ∧ Below w.heap.size w w':=by
  obtain ⟨R,hR⟩ : ∃ R,bA x y = R:=⟨_,rfl⟩;rw [hR];have Hk : Hid (¬ x.key = y.key → R = aJ x.key y.key):=fun h=>by rw [← hR]; exact Kr h
  have Hv : Hid (x.key = y.key → ¬ x.value = y.value → R = aJ x.value y.value):=fun h h2=>by rw [← hR]; exact Kt h h2
  have He : Hid (x.key = y.key → x.value = y.value → R = decide (x.effect < y.effect)):=fun h h2=>by rw [← hR]; exact Ku h h2
  obtain ⟨k1,v1,n1⟩:=x;obtain ⟨k2,v2,n2⟩:=y;simp only at *;have Hb:=Lib.hid (fun a b : Obj=>((Below.refl w.heap.size w).alloc (Nat.le_refl _) a).alloc (by simp) b);clear hR;by_cases hk : k1 = k2
  case neg=>
    have Hf:=Lib.hid (Hk.out hk);have hs:=dH hk;unfold aJ at Hf;clear hk Hk Hv He;go_enter Tryz.func114,Tryz.ntmps114;go_wp2_with fail;go_ret;exact ⟨by rw [Hf.out]; rfl,Hb.out _ _⟩
  have hs:=cu hk;by_cases hv : v1 = v2
  case neg=>
    have Hf:=Lib.hid (Hv.out hk hv);have ht:=dH hv;unfold aJ at Hf;clear hk hv Hk Hv He;go_enter Tryz.func114,Tryz.ntmps114;go_wp2_with fail;go_ret;exact ⟨by rw [Hf.out]; rfl,Hb.out _ _⟩
  have ht:=cu hv;have Hf:=Lib.hid (He.out hk hv);clear hk hv Hk Hv He;go_enter Tryz.func114,Tryz.ntmps114;go_wp2_with fail;go_ret;exact ⟨by rw [Hf.out]; rfl,Hb.out _ _⟩
end taint
namespace taint
open Go.ChangeShapes Go.WideShapes Go.ChangeAt Go.RowKit ty lab dedup need
set_option maxRecDepth 100000 in
set_option maxHeartbeats 16000000 in
theorem tY (l : List av) (f : Nat) (v : Value) (w : World) (h : bf w f v (.sl 3 l.length (l.flatMap av.row))) (hz : bH av.wt l ≤ 1048576) :
    Calls Tryz.prog 59 #[v] w fun e w'=>e = .returned (.bool (yes (bL l))) ∧ Below w.heap.size w w':=by
  obtain ⟨A,c,rfl,hc1,hc2,f',rfl,hk⟩:=bD av.au h;unfold maxLen at hc2;obtain ⟨R,hR⟩ : ∃ R,yes (bL l) = R:=⟨_,rfl⟩;rw [hR];have Hno : Hid (¬ bL l → R = false):=fun h=>by rw [← hR]; exact aP h
  have aG : Hid (bL l → R = true):=fun h=>by rw [← hR]; exact aQ h
  have Hk:=Lib.hid hk;have Hz:=Lib.hid (fun j (hj : j < l.length)=>Nat.le_trans (ko av.wt hj) hz);clear h hk hR hz;by_cases h4 : 4 < l.length
  · have Hf:=Lib.hid (Hno.out fun h2=>by have:=h2.1; omega);go_enter Tryz.func59,Tryz.ntmps59;go_wp2_with fail;go_ret;exact ⟨by rw [Hf.out]; rfl,Below.refl _ _⟩
  have qD:=Lib.hid (fun h3=>aG.out ⟨by omega,h3⟩);have Kv:=Lib.hid (fun (h3 : ¬ fE iX bA l l.length)=>Hno.out (fun h=>h3 h.2));clear Hno aG;go_enter Tryz.func59,Tryz.ntmps59;go_wp2_with fail
  go_loopw [3] (fun i wr=>∃ j : Nat,j ≤ l.length ∧ i = .int .i64 j ∧ Hid (fE iX bA l j) ∧ Below w.heap.size w wr) (fun i _=>l.length - (intOf i).toNat)
  case atStart=>exact ⟨0,Nat.zero_le _,rfl,fun i hi hj=>by omega,Below.refl _ _⟩
  case round=>
    obtain ⟨j,hj,rfl,hgood,hbel⟩:=hrel;have bg:=Lib.hid hbel;by_cases hlt : j < l.length
    · obtain ⟨g,o,rfl,hg,us,kN,hc,hls⟩:=(Hk.out.below hbel).get hlt;obtain ⟨rfl,hwf⟩:=av.opened hls;have q0 : ∀ p : ak wr,p.v.cell? ⟨g,o + j * 3,none⟩ = some (.string l[j].key):=fun p=>p.cell hg (hc 0 _ rfl);have q1 : ∀ p : ak wr,p.v.cell? ⟨g,o + j * 3 + 1,none⟩ = some (.string l[j].value):=fun p=>p.cell hg (hc 1 _ rfl);have q2 : ∀ p : ak wr,p.v.cell? ⟨g,o + j * 3 + 2,none⟩ = some (.int .i64 l[j].effect):=fun p=>p.cell hg (hc 2 _ rfl);have HN:=Lib.hid (fun p : ak wr=>Hu l[j] p.v (Hz.out j hlt));have HW2 : Hid (∀ p : ak wr,Below w.heap.size w p.v):=fun p=>ah hbel p.h hbel.size;have hj0 : (0 : Int) ≤ (j : Int):=(by omega);have hjn : (j : Int) < (l.length : Int):=(by omega);by_cases hP : iX l[j]
      case neg=>
        have Hf:=Lib.hid (Kv.out fun h2=>hP (h2 j hlt hlt).1);rw [aP hP] at HN;clear hP Kv qD hgood hls kN hc hg hwf Hk hbel;generalize l[j] = x at *;go_wp2_with fail;refine wp_region_quiet_below (by kernel_rfl) (by kernel_rfl) ?_
        repeat (refine @wpQuiet_step _ _ _ _ _ _ _ ?_; intro K hK; go_simp; first | (refine hK _ ?_; clear hK K) | (apply Exists.intro; refine ⟨fun _=>?_,hK _ ?_⟩; (first | (go_at_call 124; exact Calls.aF (HN.out _))); clear hK K))
        refine wpQuiet_nil ?_;intro _ hw';obtain ⟨p,rfl⟩:=hw';go_wp2_with fail;go_ret;exact ⟨by rw [Hf.out]; rfl,HW2.out p⟩
      rw [aQ hP] at HN;by_cases hz : j = 0
      · have Hg:=Lib.hid (fM hgood.out hlt hP (fun m hm=>by omega));have hn0 : ¬ (0 : Int) < (j : Int):=(by omega);have hn1 : ¬ 0 < j:=(by omega);clear hP Kv qD hgood hls kN hc hg hwf Hk hz hbel;generalize l[j] = x at *;go_wp2_with fail;refine wp_region_quiet_below (by kernel_rfl) (by kernel_rfl) ?_
        repeat (refine @wpQuiet_step _ _ _ _ _ _ _ ?_; intro K hK; go_simp; first | (refine hK _ ?_; clear hK K) | (apply Exists.intro; refine ⟨fun _=>?_,hK _ ?_⟩; (first | (go_at_call 124; exact Calls.aF (HN.out _))); clear hK K))
        refine wpQuiet_nil ?_;intro _ hw';obtain ⟨p,rfl⟩:=hw';go_wp2_with fail
        go_roundw
        case rel=>exact ⟨j + 1,by omega,by go_num,Hg.out,HW2.out p⟩
        case measure=>simp [intOf]; omega
      obtain ⟨m,hm⟩ : ∃ m,m + 1 = j:=⟨j - 1,by omega⟩;have hml : m < l.length:=(by omega);obtain ⟨g',o',hA3,hg2,MH,jD,hc2',eZ⟩:=(Hk.out.below hbel).get hml;injection hA3 with hA3;injection hA3 with e1 e2;subst e1 e2;obtain ⟨rfl,_⟩:=av.opened eZ;have HC:=Lib.hid (fun p : ak wr=>zA l[m] l[j] p.v);have R0 : ∀ p : ak wr,p.v.cell? ⟨g,o + m * 3,none⟩ = some (.string l[m].key):=fun p=>p.cell hg (hc2' 0 _ rfl);have R1 : ∀ p : ak wr,p.v.cell? ⟨g,o + m * 3 + 1,none⟩ = some (.string l[m].value):=fun p=>p.cell hg (hc2' 1 _ rfl);have R2 : ∀ p : ak wr,p.v.cell? ⟨g,o + m * 3 + 2,none⟩ = some (.int .i64 l[m].effect):=fun p=>p.cell hg (hc2' 2 _ rfl);have yZ : (j : Int) - 1 = (m : Int):=(by omega);have BN : IntKind.i64.wrap (m : Int) = (m : Int):=IntWalk.i64_in _ (by omega);have hm0 : (0 : Int) ≤ (m : Int):=(by omega);have hm1 : (m : Int) < (l.length : Int):=(by omega);have hjp : (0 : Int) < (j : Int):=(by omega);have Dw : 0 < j:=(by omega);cases hb : bA l[m] l[j] with
      | true=>
        have Hg:=Lib.hid (fM hgood.out hlt hP (fun m' hm'=>by
                                                                          obtain rfl : m' = m:=(by omega);exact hb))
        rw [hb] at HC;clear hP Kv qD hgood hls kN hc hg hwf eZ jD hc2' hg2 Hk hz hm hb hbel;generalize l[j] = x at *;generalize l[m] = y at *;go_wp2_with fail;refine wp_region_quiet_below (by kernel_rfl) (by kernel_rfl) ?_
        repeat (refine @wpQuiet_step _ _ _ _ _ _ _ ?_; intro K hK; go_simp; first | (refine hK _ ?_; clear hK K) | (apply Exists.intro; refine ⟨fun _=>?_,hK _ ?_⟩; (first | (go_at_call 124; exact Calls.aF (HN.out _)) | (go_at_call 114; exact Calls.aF (HC.out _))); clear hK K))
        refine wpQuiet_nil ?_;intro _ hw';obtain ⟨p,rfl⟩:=hw';go_wp2_with fail
        go_roundw
        case rel=>exact ⟨j + 1,by omega,by go_num,Hg.out,HW2.out p⟩
        case measure=>simp [intOf]; omega
      | false=>
        have Hf:=Lib.hid (Kv.out fun h2=>by
          have:=(h2 j hlt hlt).2 m hm;rw [hb] at this; cases this)
        rw [hb] at HC;clear hP Kv qD hgood hls kN hc hg hwf eZ jD hc2' hg2 Hk hz hm hb hbel;generalize l[j] = x at *;generalize l[m] = y at *;go_wp2_with fail;refine wp_region_quiet_below (by kernel_rfl) (by kernel_rfl) ?_
        repeat (refine @wpQuiet_step _ _ _ _ _ _ _ ?_; intro K hK; go_simp; first | (refine hK _ ?_; clear hK K) | (apply Exists.intro; refine ⟨fun _=>?_,hK _ ?_⟩; (first | (go_at_call 124; exact Calls.aF (HN.out _)) | (go_at_call 114; exact Calls.aF (HC.out _))); clear hK K))
        refine wpQuiet_nil ?_;intro _ hw';obtain ⟨p,rfl⟩:=hw';go_wp2_with fail;go_ret;exact ⟨by rw [Hf.out]; rfl,HW2.out p⟩
    · obtain rfl : j = l.length:=(by omega);have Hf:=Lib.hid (qD.out hgood.out);clear hgood hbel;go_wp2_with fail;go_ret;exact ⟨by rw [Hf.out]; rfl,bg.out⟩
end taint
namespace taint
open Go Go.RowKit
theorem TryzinfITaint : (Tryz.prog.info? 72).map (fun i=>(i.zero,i.size,i.bytes)) = some (some (.agg #[.string ⟨#[]⟩,.string ⟨#[]⟩,.int .i64 0]),3,40):=by kernel_rfl
end taint
namespace need
open Go Go.RowKit dedup
theorem Jr {α : Type} (lt : α → α → Bool) (f : α → Nat) (x : α) : ∀ S : List α,bH f (iJ lt x S) ≤ f x + bH f S
  | []=>by simp [iJ,bH]
  | y :: r=>by
    have ih:=Jr lt f x r;rw [iJ]
    split
    · simp only [bH,List.map_cons,List.sum_cons] at ih ⊢; omega
    split
    · simp only [bH,List.map_cons,List.sum_cons]; omega
    · simp only [bH,List.map_cons,List.sum_cons]; omega
theorem kY {α : Type} (lt : α → α → Bool) (f : α → Nat) (l : List α) : bH f (aU lt l) ≤ bH f l:=by
  suffices h : ∀ (l acc : List α),bH f (l.foldl (fun acc x=>iJ lt x acc) acc) ≤ bH f acc + bH f l by simpa [aU,bH] using h l []
  intro l
  induction l with
  | nil=>intro acc; simp [bH]
  | cons x l ih=>
    intro acc;have h1:=ih (iJ lt x acc);have h2:=Jr lt f x acc;simp only [List.foldl_cons];have e : bH f (x :: l) = f x + bH f l:=(by simp [bH]);omega
end need
namespace ty
open Go Go.RowKit
structure Host where
  name : ByteArray
  labels : List Label
  cpu : Int
  mem : Int
  slots : Int
  bP : List av
namespace Host
def row (x : Host) : List C:=[.str x.name,.sl 2 x.labels.length (x.labels.flatMap Label.row),.int .i64 x.cpu,.int .i64 x.mem,.int .i64 x.slots,.sl 3 x.bP.length (x.bP.flatMap av.row)]
theorem au (x : Host) : x.row.length = 6:=rfl
def wt (x : Host) : Nat:=x.name.size + (x.labels.length + bH Label.wt x.labels) + (x.bP.length + bH av.wt x.bP)
def cost (x : Host) : Nat:=4 + bH Label.cost x.labels + bH av.cost x.bP
def mark (x : Host) (k : Int) : Host:=⟨(lawMark.mt k),(LX Label.mark Label.cost x.labels (k + 1)),(k + 1 + (bH Label.cost x.labels : Nat)),(k + 2 + (bH Label.cost x.labels : Nat)),(k + 3 + (bH Label.cost x.labels : Nat)),(LX av.mark av.cost x.bP (k + 4 + (bH Label.cost x.labels : Nat)))⟩
def Wf (x : Host) : Prop:=x.name.size ≤ maxLen ∧ (Lit.int .i64 x.cpu).wf = true ∧ (Lit.int .i64 x.mem).wf = true ∧ (Lit.int .i64 x.slots).wf = true
theorem opened {w : World} {f : Nat} {us : List Value} {x : Host} (h : aH w f us x.row) : ∃ A1 c1 A5 c5,us = [.string x.name,.slice A1 x.labels.length c1,.int .i64 x.cpu,.int .i64 x.mem,.int .i64 x.slots,.slice A5 x.bP.length c5] ∧ x.Wf ∧ x.labels.length ≤ c1 ∧ c1 ≤ maxLen ∧ bf w f (.slice A1 x.labels.length c1) (.sl 2 x.labels.length (x.labels.flatMap Label.row)) ∧ x.bP.length ≤ c5 ∧ c5 ≤ maxLen ∧ bf w f (.slice A5 x.bP.length c5) (.sl 3 x.bP.length (x.bP.flatMap av.row)):=by
  obtain ⟨v0,_,rfl,l0,h⟩:=h.bO;obtain ⟨v1,_,rfl,l1,h⟩:=h.bO;obtain ⟨v2,_,rfl,l2,h⟩:=h.bO;obtain ⟨v3,_,rfl,l3,h⟩:=h.bO;obtain ⟨v4,_,rfl,l4,h⟩:=h.bO;obtain ⟨v5,_,rfl,l5,h⟩:=h.bO;obtain rfl:=h.nO;obtain ⟨rfl,w0⟩:=l0.str;obtain ⟨A1,c1,rfl,k1,m1,_⟩:=l1.sl;obtain ⟨rfl,w2⟩:=l2.int;obtain ⟨rfl,w3⟩:=l3.int;obtain ⟨rfl,w4⟩:=l4.int;obtain ⟨A5,c5,rfl,k5,m5,_⟩:=l5.sl;exact ⟨A1,c1,A5,c5,rfl,⟨w0,w2,w3,w4⟩,k1,m1,l1,k5,m5,l5⟩
theorem owned {w : World} {B f : Nat} {x : Host} {v1 v5 : Value} {F1 F5 : List Nat} (h : x.Wf) (o1 : Own w B (f + 1) v1 (.sl 2 x.labels.length (x.labels.flatMap Label.row)) F1) (o5 : Own w B (f + 1) v5 (.sl 3 x.bP.length (x.bP.flatMap av.row)) F5) (n1 : F1.Nodup) (n5 : F5.Nodup) (mE : ∀ y ∈ F1,y ∉ F5) : ∃ F,bq w B (f + 1) [.string x.name,v1,.int .i64 x.cpu,.int .i64 x.mem,.int .i64 x.slots,v5] x.row F ∧ F.Nodup ∧ ∀ y ∈ F,y ∈ F1 ∨ y ∈ F5:=by
  obtain ⟨w0,w2,w3,w4⟩:=h;refine ⟨_,bq.cons (lH w0) (bq.cons o1 (bq.cons (mD w2) (bq.cons (mD w3) (bq.cons (mD w4) (bq.cons o5 (bq.nil)))))),?_,?_⟩
  · simp only [List.nil_append,List.append_nil];exact (List.nodup_append.2 ⟨n1,n5,fun a ha b hb e=>mE a ha (by rw [e]; exact hb)⟩)
  · simp only [List.nil_append,List.append_nil];intro y hy;simpa only [List.mem_append] using hy
end Host
theorem nT {α : Type} {vs : List α} (h : vs.length = 6) : ∃ u0 u1 u2 u3 u4 u5,vs = [u0,u1,u2,u3,u4,u5]:=by
  match vs,h with
  | [u0,u1,u2,u3,u4,u5],_=>exact ⟨u0,u1,u2,u3,u4,u5,rfl⟩
end ty
section
open Go Go.RowKit
def H9 (w : World) (D : Nat) (ds : List C) (e : Ending) (w' : World) : Prop:=
  ∃ us F,e = .returned (.agg us.toArray) ∧ bq w' w.heap.size D us ds F ∧ F.Nodup ∧ Below w.heap.size w w'
theorem dx.eD {w : World} {B f : Nat} {e : TypeId} {size : Nat} {v : Value} {n : Nat} {cells : List C} (h : dx w B f e size v n cells) : ∃ A c,v = .slice A n c:=by
  obtain ⟨xs,F,h1,_⟩:=h;rcases h1.2 with ⟨rfl,rfl⟩ | ⟨g,cap,cur,rfl,_⟩
  · exact ⟨none,0,rfl⟩
  · exact ⟨_,_,rfl⟩
theorem size_setCell (w : World) (a : Addr) (u : Value) : (w.setCell a u).heap.size = w.heap.size:=by simp [World.setCell]
end
namespace ty
open Go.ChangeShapes Go.WideShapes Go.ChangeAt Go.RowKit
end ty
namespace ty
open Go.ChangeShapes Go.WideShapes Go.ChangeAt Go.RowKit
end ty
namespace ty
open Go.ChangeShapes Go.WideShapes Go.ChangeAt Go.RowKit
end ty
namespace ty
open Go.ChangeShapes Go.WideShapes Go.ChangeAt Go.RowKit
end ty
end Go.Proofs.YtcfbkfmkjggcdaaGreatDoor
