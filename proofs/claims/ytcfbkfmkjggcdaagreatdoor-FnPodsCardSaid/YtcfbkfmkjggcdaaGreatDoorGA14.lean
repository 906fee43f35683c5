/- Merged: TolM TolS OksToleranceS InToleranceI TyPod ToTolerance ToToleranceS. -/
import Derived.Test.YtcfbkfmkjggcdaaGreatDoorGA8
import Derived.Test.YtcfbkfmkjggcdaaGreatDoorGA2
import Derived.Test.YtcfbkfmkjggcdaaGreatDoorGA9
import Derived.Test.YtcfbkfmkjggcdaaGreatDoorGA13
import Derived.Test.YtcfbkfmkjggcdaaGreatDoorGA1
import Derived.Test.YtcfbkfmkjggcdaaGreatDoorGA6
import Derived.Laws.Cover1
import Derived.Test.YtcfbkfmkjggcdaaGreatDoorRows
import Derived.ProofKit
import Derived.Deep.WholeRow
import Derived.Test.YtcfbkfmkjggcdaaGreatDoorGA10
import Derived.Test.YtcfbkfmkjggcdaaGreatDoorGA4
import Derived.Test.YtcfbkfmkjggcdaaGreatDoorGA0
import Derived.OpenShut
import Derived.OwnWalk
set_option linter.unusedVariables false
namespace Go.Proofs.YtcfbkfmkjggcdaaGreatDoor
namespace taint
open Go Go.RowKit ty lab
def oG (k : ByteArray) (q : Bool) (a : ByteArray) : Prop:=(q = true ∧ gP k ∧ gG a) ∨ (q = false ∧ a.size = 0 ∧ (k.size = 0 ∨ gP k))
theorem JG (x : aj) : qF x ↔ (0 ≤ x.effect ∧ x.effect ≤ 2) ∧ oG x.key x.equal x.value:=by
  constructor
  · intro h;refine ⟨⟨h.lo,h.hi⟩,?_⟩;cases hq : x.equal with
    | true=>exact .inl ⟨rfl,h.eq hq⟩
    | false=>exact .inr ⟨rfl,h.free hq⟩
  · rintro ⟨⟨h1,h2⟩,h⟩;refine ⟨h1,h2,fun hq=>?_,fun hq=>?_⟩
    · rcases h with ⟨h,_⟩ | ⟨_,h⟩
      · rw [hq] at h; cases h
      · exact h
    · rcases h with ⟨_,h⟩ | ⟨h,_⟩
      · exact h
      · rw [hq] at h; cases h
theorem jS {a : ByteArray} (h : a.size = 0) : (a.toList == []) = true:=by
  have : a.toList.length = 0:=(by rw [ByteArray.toList_eq,Array.length_toList]; exact h);rw [List.eq_nil_of_length_eq_zero this]; rfl
theorem lK {a : ByteArray} (h : ¬ a.size = 0) : (a.toList == []) = false:=by
  rw [beq_eq_false_iff_ne];intro e;apply h;have h2 : a.toList.length = a.size:=(by rw [ByteArray.toList_eq,Array.length_toList]; rfl);rw [← h2,e]; rfl
theorem Qz (k a : ByteArray) : yes (oG k true a) = (yes (gP k) && yes (gG a)):=by
  by_cases h1 : gP k
  · by_cases h2 : gG a
    · rw [aQ h1,aQ h2,aQ (.inl ⟨rfl,h1,h2⟩)]; rfl
    · rw [aQ h1,aP h2,aP]
      · rfl
      · rintro (⟨_,h⟩ | ⟨h,_⟩)
        · exact h2 h.2
        · cases h
  · rw [aP h1,aP]
    · rfl
    · rintro (⟨_,h⟩ | ⟨h,_⟩)
      · exact h1 h.1
      · cases h
end taint
namespace taint
open Go.ChangeShapes Go.WideShapes Go.ChangeAt Go.RowKit ty lab need
set_option maxRecDepth 100000 in
set_option maxHeartbeats 8000000 in
theorem NA (x : aj) (w : World) (hz : x.wt ≤ 1048576) :
    Calls Tryz.prog 120 #[.agg #[.string x.key,.bool x.equal,.string x.value,.int .i64 x.effect]] w fun e w'=>e = .returned (.bool (yes (qF x))) ∧ Below w.heap.size w w':=by
  unfold aj.wt at hz;obtain ⟨k,q,a,n⟩:=x;simp only at *;rw [show yes (qF ⟨k,q,a,n⟩) = yes ((0 ≤ n ∧ n ≤ 2) ∧ oG k q a) from by congr 1; exact propext (JG ⟨k,q,a,n⟩)];have HK:=Lib.hid (fun w'=>vC k w' (by omega));have HV:=Lib.hid (fun w'=>vD a w' (by omega));have HI:=Lib.hid (fun w'=>DJ n w' 0 2);have Hb0:=Lib.hid (fun (o : Obj) n=>below_drewN ((Below.refl w.heap.size w).alloc (Nat.le_refl _) o) n);clear hz;by_cases hn : 0 ≤ n ∧ n ≤ 2
  case neg=>
    have Hf:=Lib.hid (aP (p:=(0 ≤ n ∧ n ≤ 2) ∧ oG k q a) (fun h=>hn h.1));rw [aP hn] at HI;clear hn HK HV;go_enter Tryz.func120,Tryz.ntmps120;go_wp2_with fail;refine (HI.out _).mono ?_;rintro e w1 ⟨rfl,rfl⟩;go_wp2_with fail;go_ret;exact ⟨by rw [Hf.out]; rfl,Hb0.out _ 0⟩
  rw [aQ hn] at HI
  have HT : Hid (yes ((0 ≤ n ∧ n ≤ 2) ∧ oG k q a) = yes (oG k q a)):=by
    unfold Hid
    congr 1
    exact propext ⟨fun h=>h.2,fun h=>⟨hn,h⟩⟩
  rw [HT.out];clear HT hn;cases q with
  | true=>
    rw [Qz];generalize yes (gG a) = b2 at HV ⊢;by_cases hk : gP k
    · rw [aQ hk] at HK ⊢;clear hk;go_enter Tryz.func120,Tryz.ntmps120;go_wp2_with fail;refine (HI.out _).mono ?_;rintro e w1 ⟨rfl,rfl⟩;go_wp2_with fail;refine (HK.out _).mono ?_;rintro e w1 ⟨rfl,n1,rfl⟩;go_wp2_with fail;refine (HV.out _).mono ?_;rintro e w1 ⟨rfl,n2,rfl⟩;go_wp2_with fail;go_ret;exact ⟨by cases b2 <;> rfl,by simpa using Hb0.out _ _⟩
    · rw [aP hk] at HK ⊢;clear hk HV;go_enter Tryz.func120,Tryz.ntmps120;go_wp2_with fail;refine (HI.out _).mono ?_;rintro e w1 ⟨rfl,rfl⟩;go_wp2_with fail;refine (HK.out _).mono ?_;rintro e w1 ⟨rfl,n1,rfl⟩;go_wp2_with fail;go_ret;exact ⟨by cases b2 <;> rfl,Hb0.out _ _⟩
  | false=>
    clear HV;by_cases ha : a.size = 0
    case neg=>
      have Hf:=Lib.hid (aP (p:=oG k false a) (fun h=>by
        rcases h with ⟨h,_⟩ | ⟨_,h,_⟩
        · cases h
        · exact ha h))
      have e1:=lK ha;clear ha HK;go_enter Tryz.func120,Tryz.ntmps120;go_wp2_with fail;refine (HI.out _).mono ?_;rintro e w1 ⟨rfl,rfl⟩;go_wp2_with fail;go_ret;exact ⟨by rw [Hf.out]; rfl,Hb0.out _ 0⟩
    have e1:=jS ha;by_cases hk : k.size = 0
    · have Hf:=Lib.hid (aQ (p:=oG k false a) (.inr ⟨rfl,ha,.inl hk⟩));have e2:=jS hk;clear ha hk HK;go_enter Tryz.func120,Tryz.ntmps120;go_wp2_with fail;refine (HI.out _).mono ?_;rintro e w1 ⟨rfl,rfl⟩;go_wp2_with fail;go_ret;exact ⟨by rw [Hf.out]; rfl,Hb0.out _ 0⟩
    have e2:=lK hk
    have Hf : Hid (yes (oG k false a) = yes (gP k)):=by
      unfold Hid
      congr 1
      refine propext ⟨fun h=>?_,fun h=>.inr ⟨rfl,ha,.inr h⟩⟩;rcases h with ⟨h,_⟩ | ⟨_,_,h⟩
      · cases h
      · exact h.resolve_left hk
    rw [Hf.out];clear Hf ha hk;generalize yes (gP k) = R at HK ⊢;go_enter Tryz.func120,Tryz.ntmps120;go_wp2_with fail;refine (HI.out _).mono ?_;rintro e w1 ⟨rfl,rfl⟩;go_wp2_with fail;refine (HK.out _).mono ?_;rintro e w1 ⟨rfl,n1,rfl⟩;go_wp2_with fail;go_ret;exact ⟨rfl,Hb0.out _ _⟩
theorem NC {a b : aj} (h : ¬ a.key = b.key) : bU a b = aJ a.key b.key:=by unfold bU; rw [if_neg h]
theorem QA {a b : aj} (h : a.key = b.key) (h2 : ¬ a.equal = b.equal) : bU a b = b.equal:=by unfold bU DI; rw [if_pos h,if_neg h2]
theorem ND {a b : aj} (h : a.key = b.key) (h2 : a.equal = b.equal) (h3 : ¬ a.value = b.value) : bU a b = aJ a.value b.value:=by unfold bU DI wY; rw [if_pos h,if_pos h2,if_neg h3]
theorem NG {a b : aj} (h : a.key = b.key) (h2 : a.equal = b.equal) (h3 : a.value = b.value) : bU a b = decide (a.effect < b.effect):=by unfold bU DI wY; rw [if_pos h,if_pos h2,if_pos h3]
set_option maxRecDepth 100000 in
set_option maxHeartbeats 16000000 in
theorem Co (x y : aj) (w : World) :
    Calls Tryz.prog 113 #[.agg #[.string x.key,.bool x.equal,.string x.value,.int .i64 x.effect],.agg #[.string y.key,.bool y.equal,.string y.value,.int .i64 y.effect]] w fun e w'=>e = .returned (.bool (bU x y)) ∧ Below w.heap.size w w':=by
  obtain ⟨R,hR⟩ : ∃ R,bU x y = R:=⟨_,rfl⟩;rw [hR];have Hk : Hid (¬ x.key = y.key → R = aJ x.key y.key):=fun h=>by rw [← hR]; exact NC h
  have Hq : Hid (x.key = y.key → ¬ x.equal = y.equal → R = y.equal):=fun h h2=>by rw [← hR]; exact QA h h2
  have Hv : Hid (x.key = y.key → x.equal = y.equal → ¬ x.value = y.value → R = aJ x.value y.value):=fun h h2 h3=>by rw [← hR]; exact ND h h2 h3
  have He : Hid (x.key = y.key → x.equal = y.equal → x.value = y.value → R = decide (x.effect < y.effect)):=fun h h2 h3=>by rw [← hR]; exact NG h h2 h3
  obtain ⟨k1,q1,v1,n1⟩:=x;obtain ⟨k2,q2,v2,n2⟩:=y;simp only at *;have Hb:=Lib.hid (fun a b : Obj=>((Below.refl w.heap.size w).alloc (Nat.le_refl _) a).alloc (by simp) b);clear hR;by_cases hk : k1 = k2
  case neg=>
    have Hf:=Lib.hid (Hk.out hk);have hs:=dH hk;unfold aJ at Hf;clear hk Hk Hv He Hq;go_enter Tryz.func113,Tryz.ntmps113;go_wp2_with fail;go_ret;exact ⟨by rw [Hf.out]; rfl,Hb.out _ _⟩
  have hs:=cu hk;by_cases hq : q1 = q2
  case neg=>
    have Hf:=Lib.hid (Hq.out hk hq);clear hk Hk Hv He Hq
    cases q1 <;> cases q2 <;> first
      | exact absurd rfl hq
      | (clear hq
         go_enter Tryz.func113,Tryz.ntmps113;go_wp2_with fail;go_ret;exact ⟨by rw [Hf.out]; rfl,Hb.out _ _⟩)
  subst hq;clear Hq Hk;cases q1 <;>
  · by_cases hv : v1 = v2
    case neg=>
      have Hf:=Lib.hid (Hv.out hk rfl hv);have ht:=dH hv;unfold aJ at Hf;clear hk hv Hv He;go_enter Tryz.func113,Tryz.ntmps113;go_wp2_with fail;go_ret;exact ⟨by rw [Hf.out]; rfl,Hb.out _ _⟩
    have ht:=cu hv;have Hf:=Lib.hid (He.out hk rfl hv);clear hk hv Hv He;go_enter Tryz.func113,Tryz.ntmps113;go_wp2_with fail;go_ret;exact ⟨by rw [Hf.out]; rfl,Hb.out _ _⟩
end taint
namespace taint
open Go.ChangeShapes Go.WideShapes Go.ChangeAt Go.RowKit ty lab dedup need
set_option maxRecDepth 100000 in
set_option maxHeartbeats 16000000 in
theorem nZ (l : List aj) (f : Nat) (v : Value) (w : World) (h : bf w f v (.sl 4 l.length (l.flatMap aj.row))) (hz : bH aj.wt l ≤ 1048576) :
    Calls Tryz.prog 55 #[v] w fun e w'=>e = .returned (.bool (yes (dN l))) ∧ Below w.heap.size w w':=by
  obtain ⟨A,c,rfl,hc1,hc2,f',rfl,hk⟩:=bD aj.au h;unfold maxLen at hc2;obtain ⟨R,hR⟩ : ∃ R,yes (dN l) = R:=⟨_,rfl⟩;rw [hR];have Hno : Hid (¬ dN l → R = false):=fun h=>by rw [← hR]; exact aP h
  have aG : Hid (dN l → R = true):=fun h=>by rw [← hR]; exact aQ h
  have Hk:=Lib.hid hk;have Hz:=Lib.hid (fun j (hj : j < l.length)=>Nat.le_trans (ko aj.wt hj) hz);clear h hk hR hz;by_cases h4 : 4 < l.length
  · have Hf:=Lib.hid (Hno.out fun h2=>by have:=h2.1; omega);go_enter Tryz.func55,Tryz.ntmps55;go_wp2_with fail;go_ret;exact ⟨by rw [Hf.out]; rfl,Below.refl _ _⟩
  have qD:=Lib.hid (fun h3=>aG.out ⟨by omega,h3⟩);have Kv:=Lib.hid (fun (h3 : ¬ fE qF bU l l.length)=>Hno.out (fun h=>h3 h.2));clear Hno aG;go_enter Tryz.func55,Tryz.ntmps55;go_wp2_with fail
  go_loopw [3] (fun i wr=>∃ j : Nat,j ≤ l.length ∧ i = .int .i64 j ∧ Hid (fE qF bU l j) ∧ Below w.heap.size w wr) (fun i _=>l.length - (intOf i).toNat)
  case atStart=>exact ⟨0,Nat.zero_le _,rfl,fun i hi hj=>by omega,Below.refl _ _⟩
  case round=>
    obtain ⟨j,hj,rfl,hgood,hbel⟩:=hrel;have bg:=Lib.hid hbel;by_cases hlt : j < l.length
    · obtain ⟨g,o,rfl,hg,us,kN,hc,hls⟩:=(Hk.out.below hbel).get hlt;obtain ⟨rfl,hwf⟩:=aj.opened hls;have q0 : ∀ p : ak wr,p.v.cell? ⟨g,o + j * 4,none⟩ = some (.string l[j].key):=fun p=>p.cell hg (hc 0 _ rfl);have q1 : ∀ p : ak wr,p.v.cell? ⟨g,o + j * 4 + 1,none⟩ = some (.bool l[j].equal):=fun p=>p.cell hg (hc 1 _ rfl);have q2 : ∀ p : ak wr,p.v.cell? ⟨g,o + j * 4 + 2,none⟩ = some (.string l[j].value):=fun p=>p.cell hg (hc 2 _ rfl);have q3 : ∀ p : ak wr,p.v.cell? ⟨g,o + j * 4 + 3,none⟩ = some (.int .i64 l[j].effect):=fun p=>p.cell hg (hc 3 _ rfl);have HN:=Lib.hid (fun p : ak wr=>NA l[j] p.v (Hz.out j hlt));have HW2 : Hid (∀ p : ak wr,Below w.heap.size w p.v):=fun p=>ah hbel p.h hbel.size;have hj0 : (0 : Int) ≤ (j : Int):=(by omega);have hjn : (j : Int) < (l.length : Int):=(by omega);by_cases hP : qF l[j]
      case neg=>
        have Hf:=Lib.hid (Kv.out fun h2=>hP (h2 j hlt hlt).1);rw [aP hP] at HN;clear hP Kv qD hgood hls kN hc hg hwf Hk hbel;generalize l[j] = x at *;go_wp2_with fail;refine wp_region_quiet_below (by kernel_rfl) (by kernel_rfl) ?_
        repeat (refine @wpQuiet_step _ _ _ _ _ _ _ ?_; intro K hK; go_simp; first | (refine hK _ ?_; clear hK K) | (apply Exists.intro; refine ⟨fun _=>?_,hK _ ?_⟩; (first | (go_at_call 120; exact Calls.aF (HN.out _))); clear hK K))
        refine wpQuiet_nil ?_;intro _ hw';obtain ⟨p,rfl⟩:=hw';go_wp2_with fail;go_ret;exact ⟨by rw [Hf.out]; rfl,HW2.out p⟩
      rw [aQ hP] at HN;by_cases hz : j = 0
      · have Hg:=Lib.hid (fM hgood.out hlt hP (fun m hm=>by omega));have hn0 : ¬ (0 : Int) < (j : Int):=(by omega);have hn1 : ¬ 0 < j:=(by omega);clear hP Kv qD hgood hls kN hc hg hwf Hk hz hbel;generalize l[j] = x at *;go_wp2_with fail;refine wp_region_quiet_below (by kernel_rfl) (by kernel_rfl) ?_
        repeat (refine @wpQuiet_step _ _ _ _ _ _ _ ?_; intro K hK; go_simp; first | (refine hK _ ?_; clear hK K) | (apply Exists.intro; refine ⟨fun _=>?_,hK _ ?_⟩; (first | (go_at_call 120; exact Calls.aF (HN.out _))); clear hK K))
        refine wpQuiet_nil ?_;intro _ hw';obtain ⟨p,rfl⟩:=hw';go_wp2_with fail
        go_roundw
        case rel=>exact ⟨j + 1,by omega,by go_num,Hg.out,HW2.out p⟩
        case measure=>simp [intOf]; omega
      obtain ⟨m,hm⟩ : ∃ m,m + 1 = j:=⟨j - 1,by omega⟩;have hml : m < l.length:=(by omega);obtain ⟨g',o',hA3,hg2,MH,jD,hc2',eZ⟩:=(Hk.out.below hbel).get hml;injection hA3 with hA3;injection hA3 with e1 e2;subst e1 e2;obtain ⟨rfl,_⟩:=aj.opened eZ;have HC:=Lib.hid (fun p : ak wr=>Co l[m] l[j] p.v);have R0 : ∀ p : ak wr,p.v.cell? ⟨g,o + m * 4,none⟩ = some (.string l[m].key):=fun p=>p.cell hg (hc2' 0 _ rfl);have R1 : ∀ p : ak wr,p.v.cell? ⟨g,o + m * 4 + 1,none⟩ = some (.bool l[m].equal):=fun p=>p.cell hg (hc2' 1 _ rfl);have R2 : ∀ p : ak wr,p.v.cell? ⟨g,o + m * 4 + 2,none⟩ = some (.string l[m].value):=fun p=>p.cell hg (hc2' 2 _ rfl);have R3 : ∀ p : ak wr,p.v.cell? ⟨g,o + m * 4 + 3,none⟩ = some (.int .i64 l[m].effect):=fun p=>p.cell hg (hc2' 3 _ rfl);have yZ : (j : Int) - 1 = (m : Int):=(by omega);have BN : IntKind.i64.wrap (m : Int) = (m : Int):=IntWalk.i64_in _ (by omega);have hm0 : (0 : Int) ≤ (m : Int):=(by omega);have hm1 : (m : Int) < (l.length : Int):=(by omega);have hjp : (0 : Int) < (j : Int):=(by omega);have Dw : 0 < j:=(by omega);cases hb : bU l[m] l[j] with
      | true=>
        have Hg:=Lib.hid (fM hgood.out hlt hP (fun m' hm'=>by
                                                                          obtain rfl : m' = m:=(by omega);exact hb))
        rw [hb] at HC;clear hP Kv qD hgood hls kN hc hg hwf eZ jD hc2' hg2 Hk hz hm hb hbel;generalize l[j] = x at *;generalize l[m] = y at *;go_wp2_with fail;refine wp_region_quiet_below (by kernel_rfl) (by kernel_rfl) ?_
        repeat (refine @wpQuiet_step _ _ _ _ _ _ _ ?_; intro K hK; go_simp; first | (refine hK _ ?_; clear hK K) | (apply Exists.intro; refine ⟨fun _=>?_,hK _ ?_⟩; (first | (go_at_call 120; exact Calls.aF (HN.out _)) | (go_at_call 113; exact Calls.aF (HC.out _))); clear hK K))
        refine wpQuiet_nil ?_;intro _ hw';obtain ⟨p,rfl⟩:=hw';go_wp2_with fail
        go_roundw
        case rel=>exact ⟨j + 1,by omega,by go_num,Hg.out,HW2.out p⟩
        case measure=>simp [intOf]; omega
      | false=>
        have Hf:=Lib.hid (Kv.out fun h2=>by
          have:=(h2 j hlt hlt).2 m hm;rw [hb] at this; cases this)
        rw [hb] at HC;clear hP Kv qD hgood hls kN hc hg hwf eZ jD hc2' hg2 Hk hz hm hb hbel;generalize l[j] = x at *;generalize l[m] = y at *;go_wp2_with fail;refine wp_region_quiet_below (by kernel_rfl) (by kernel_rfl) ?_
        repeat (refine @wpQuiet_step _ _ _ _ _ _ _ ?_; intro K hK; go_simp; first | (refine hK _ ?_; clear hK K) | (apply Exists.intro; refine ⟨fun _=>?_,hK _ ?_⟩; (first | (go_at_call 120; exact Calls.aF (HN.out _)) | (go_at_call 113; exact Calls.aF (HC.out _))); clear hK K))
        refine wpQuiet_nil ?_;intro _ hw';obtain ⟨p,rfl⟩:=hw';go_wp2_with fail;go_ret;exact ⟨by rw [Hf.out]; rfl,HW2.out p⟩
    · obtain rfl : j = l.length:=(by omega);have Hf:=Lib.hid (qD.out hgood.out);clear hgood hbel;go_wp2_with fail;go_ret;exact ⟨by rw [Hf.out]; rfl,bg.out⟩
end taint
namespace taint
open Go Go.RowKit
theorem TryzinfITolerance : (Tryz.prog.info? 86).map (fun i=>(i.zero,i.size,i.bytes)) = some (some (.agg #[.string ⟨#[]⟩,.bool false,.string ⟨#[]⟩,.int .i64 0]),4,48):=by kernel_rfl
end taint
namespace ty
open Go Go.RowKit
structure Pod where
  name : ByteArray
  labels : List Label
  cpu : Int
  mem : Int
  rank : Int
  needs : List Need
  tolerances : List aj
namespace Pod
def row (x : Pod) : List C:=[.str x.name,.sl 2 x.labels.length (x.labels.flatMap Label.row),.int .i64 x.cpu,.int .i64 x.mem,.int .i64 x.rank,.sl 3 x.needs.length (x.needs.flatMap Need.row),.sl 4 x.tolerances.length (x.tolerances.flatMap aj.row)]
theorem au (x : Pod) : x.row.length = 7:=rfl
def wt (x : Pod) : Nat:=x.name.size + (x.labels.length + bH Label.wt x.labels) + (x.needs.length + bH Need.wt x.needs) + (x.tolerances.length + bH aj.wt x.tolerances)
def cost (x : Pod) : Nat:=4 + bH Label.cost x.labels + bH Need.cost x.needs + bH aj.cost x.tolerances
def mark (x : Pod) (k : Int) : Pod:=⟨(lawMark.mt k),(LX Label.mark Label.cost x.labels (k + 1)),(k + 1 + (bH Label.cost x.labels : Nat)),(k + 2 + (bH Label.cost x.labels : Nat)),(k + 3 + (bH Label.cost x.labels : Nat)),(LX Need.mark Need.cost x.needs (k + 4 + (bH Label.cost x.labels : Nat))),(LX aj.mark aj.cost x.tolerances (k + 4 + (bH Label.cost x.labels : Nat) + (bH Need.cost x.needs : Nat)))⟩
def Wf (x : Pod) : Prop:=x.name.size ≤ maxLen ∧ (Lit.int .i64 x.cpu).wf = true ∧ (Lit.int .i64 x.mem).wf = true ∧ (Lit.int .i64 x.rank).wf = true
theorem opened {w : World} {f : Nat} {us : List Value} {x : Pod} (h : aH w f us x.row) : ∃ A1 c1 A5 c5 A6 c6,us = [.string x.name,.slice A1 x.labels.length c1,.int .i64 x.cpu,.int .i64 x.mem,.int .i64 x.rank,.slice A5 x.needs.length c5,.slice A6 x.tolerances.length c6] ∧ x.Wf ∧ x.labels.length ≤ c1 ∧ c1 ≤ maxLen ∧ bf w f (.slice A1 x.labels.length c1) (.sl 2 x.labels.length (x.labels.flatMap Label.row)) ∧ x.needs.length ≤ c5 ∧ c5 ≤ maxLen ∧ bf w f (.slice A5 x.needs.length c5) (.sl 3 x.needs.length (x.needs.flatMap Need.row)) ∧ x.tolerances.length ≤ c6 ∧ c6 ≤ maxLen ∧ bf w f (.slice A6 x.tolerances.length c6) (.sl 4 x.tolerances.length (x.tolerances.flatMap aj.row)):=by
  obtain ⟨v0,_,rfl,l0,h⟩:=h.bO;obtain ⟨v1,_,rfl,l1,h⟩:=h.bO;obtain ⟨v2,_,rfl,l2,h⟩:=h.bO;obtain ⟨v3,_,rfl,l3,h⟩:=h.bO;obtain ⟨v4,_,rfl,l4,h⟩:=h.bO;obtain ⟨v5,_,rfl,l5,h⟩:=h.bO;obtain ⟨v6,_,rfl,l6,h⟩:=h.bO;obtain rfl:=h.nO;obtain ⟨rfl,w0⟩:=l0.str;obtain ⟨A1,c1,rfl,k1,m1,_⟩:=l1.sl;obtain ⟨rfl,w2⟩:=l2.int;obtain ⟨rfl,w3⟩:=l3.int;obtain ⟨rfl,w4⟩:=l4.int;obtain ⟨A5,c5,rfl,k5,m5,_⟩:=l5.sl;obtain ⟨A6,c6,rfl,k6,m6,_⟩:=l6.sl;exact ⟨A1,c1,A5,c5,A6,c6,rfl,⟨w0,w2,w3,w4⟩,k1,m1,l1,k5,m5,l5,k6,m6,l6⟩
theorem owned {w : World} {B f : Nat} {x : Pod} {v1 v5 v6 : Value} {F1 F5 F6 : List Nat} (h : x.Wf) (o1 : Own w B (f + 1) v1 (.sl 2 x.labels.length (x.labels.flatMap Label.row)) F1) (o5 : Own w B (f + 1) v5 (.sl 3 x.needs.length (x.needs.flatMap Need.row)) F5) (o6 : Own w B (f + 1) v6 (.sl 4 x.tolerances.length (x.tolerances.flatMap aj.row)) F6) (n1 : F1.Nodup) (n5 : F5.Nodup) (n6 : F6.Nodup) (mE : ∀ y ∈ F1,y ∉ F5) (yD : ∀ y ∈ F1,y ∉ F6) (yE : ∀ y ∈ F5,y ∉ F6) : ∃ F,bq w B (f + 1) [.string x.name,v1,.int .i64 x.cpu,.int .i64 x.mem,.int .i64 x.rank,v5,v6] x.row F ∧ F.Nodup ∧ ∀ y ∈ F,y ∈ F1 ∨ y ∈ F5 ∨ y ∈ F6:=by
  obtain ⟨w0,w2,w3,w4⟩:=h;refine ⟨_,bq.cons (lH w0) (bq.cons o1 (bq.cons (mD w2) (bq.cons (mD w3) (bq.cons (mD w4) (bq.cons o5 (bq.cons o6 (bq.nil))))))),?_,?_⟩
  · simp only [List.nil_append,List.append_nil];exact (List.nodup_append.2 ⟨n1,(List.nodup_append.2 ⟨n5,n6,fun a ha b hb e=>yE a ha (by rw [e]; exact hb)⟩),fun a ha b hb e=>(List.mem_append.1 hb).elim (fun hb=>mE a ha (by rw [e]; exact hb)) (fun hb=>yD a ha (by rw [e]; exact hb))⟩)
  · simp only [List.nil_append,List.append_nil];intro y hy;simpa only [List.mem_append] using hy
end Pod
theorem p8 {α : Type} {vs : List α} (h : vs.length = 7) : ∃ u0 u1 u2 u3 u4 u5 u6,vs = [u0,u1,u2,u3,u4,u5,u6]:=by
  match vs,h with
  | [u0,u1,u2,u3,u4,u5,u6],_=>exact ⟨u0,u1,u2,u3,u4,u5,u6,rfl⟩
end ty
namespace ty
open Go.ChangeShapes Go.WideShapes Go.ChangeAt Go.RowKit
end ty
namespace ty
open Go.ChangeShapes Go.WideShapes Go.ChangeAt Go.RowKit
end ty
end Go.Proofs.YtcfbkfmkjggcdaaGreatDoor
