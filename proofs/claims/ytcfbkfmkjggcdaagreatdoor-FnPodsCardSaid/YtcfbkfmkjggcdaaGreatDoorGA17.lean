/- Merged: AscN SelI MethI FieldsI TolI CmpCI GrRow PodC BackN PodF CofLabelI NormC. -/
import Derived.Test.YtcfbkfmkjggcdaaGreatDoorGA16
import Derived.Test.YtcfbkfmkjggcdaaGreatDoorGA13
import Derived.Test.YtcfbkfmkjggcdaaGreatDoorGA15
import Derived.Test.YtcfbkfmkjggcdaaGreatDoorGA9
import Derived.Test.YtcfbkfmkjggcdaaGreatDoorGA3
import Derived.Test.YtcfbkfmkjggcdaaGreatDoorRows
import Derived.ProofKit
import Derived.OpenShut
import Derived.Laws.Cover1
import Derived.Laws.Rows
import Derived.Test.YtcfbkfmkjggcdaaGreatDoorGA14
import Derived.Test.YtcfbkfmkjggcdaaGreatDoorGA5
import Derived.Test.YtcfbkfmkjggcdaaGreatDoorShelf
import Derived.Deep.RegionHeld3
import Derived.Deep.WholeRow
import Derived.Test.YtcfbkfmkjggcdaaGreatDoorGA0
import Derived.Test.YtcfbkfmkjggcdaaGreatDoorGA11
import Derived.Test.YtcfbkfmkjggcdaaGreatDoorGA8
import Derived.Test.YtcfbkfmkjggcdaaGreatDoorGA6
import Derived.Test.YtcfbkfmkjggcdaaGreatDoorGA4
set_option linter.unusedVariables false
namespace Go.Proofs.YtcfbkfmkjggcdaaGreatDoor
namespace need
open Go.ChangeShapes Go.WideShapes Go.ChangeAt Go.RowKit ty lab
set_option maxRecDepth 100000 in
set_option maxHeartbeats 16000000 in
theorem KX (l : List Need) (f : Nat) (v : Value) (w : World) (h : bf w f v (.sl 3 l.length (l.flatMap Need.row))) (hw : ∀ j (h : j < l.length),l[j].wt ≤ 1048576) :
    Calls Tryz.prog 172 #[v,.func (.func 173) #[] #[],.func (.func 100) #[] #[]] w fun e w'=>e = .returned (.bool (yes (qy l l.length))) ∧ Below w.heap.size w w':=by
  obtain ⟨A,c,rfl,hc1,hc2,f',rfl,hk⟩:=bD Need.au h;unfold maxLen at hc2;obtain ⟨R,hR⟩ : ∃ R,yes (qy l l.length) = R:=⟨_,rfl⟩;rw [hR];have Hno : Hid (¬ qy l l.length → R = false):=fun h=>by rw [← hR]; exact aP h
  have aG : Hid (qy l l.length → R = true):=fun h=>by rw [← hR]; exact aQ h
  have Nq:=Lib.hid hw;have Hk:=Lib.hid hk;clear h hk hR hw;go_enter Tryz.func172,Tryz.ntmps172;go_wp2_with fail
  go_loopw [11] (fun i wr=>∃ j : Nat,j ≤ l.length ∧ i = .int .i64 j ∧ Hid (qy l j) ∧ Below w.heap.size w wr) (fun i _=>l.length - (intOf i).toNat)
  case atStart=>exact ⟨0,Nat.zero_le _,rfl,fun i hi hj=>by omega,Below.refl _ _⟩
  case round=>
    obtain ⟨j,hj,rfl,hgood,hbel⟩:=hrel;have bg:=Lib.hid hbel;by_cases hlt : j < l.length
    · obtain ⟨g,o,A2,c2,rfl,q0,q1,q2,hls⟩:=rE Hk.out hbel hlt;obtain ⟨X,hX⟩ : ∃ X,X = wr.alloc (.cells #[.string l[j].key,.int .i64 l[j].op,.slice A2 l[j].values.length c2] 69):=⟨_,rfl⟩;have HB:=Lib.hid (AU.new 69 wr [.string l[j].key,.int .i64 l[j].op,.slice A2 l[j].values.length c2]);have hbX : Below wr.heap.size wr X:=(by rw [hX]; exact HB.out.1);have HN:=Lib.hid (fun p : ak X=>KT l[j] f' _ p.v (hls ⟨p.v,hbX.trans (p.h.mono hbX.size)⟩) (Nq.out j hlt));have HW2 : Hid (∀ p : ak X,Below w.heap.size w p.v):=fun p=>ah hbel (hbX.trans (p.h.mono hbX.size)) hbel.size;have B0 : ∀ p : ak X,p.v.cell? ⟨wr.heap.size,0,none⟩ = some (.string l[j].key):=fun p=>p.cell (by rw [hX]; simp) (by rw [hX]; exact HB.out.cell (j:=0) rfl);have B1 : ∀ p : ak X,p.v.cell? ⟨wr.heap.size,1,none⟩ = some (.int .i64 l[j].op):=fun p=>p.cell (by rw [hX]; simp) (by rw [hX]; exact HB.out.cell (j:=1) rfl);have B2 : ∀ p : ak X,p.v.cell? ⟨wr.heap.size,2,none⟩ = some (.slice A2 l[j].values.length c2):=fun p=>p.cell (by rw [hX]; simp) (by rw [hX]; exact HB.out.cell (j:=2) rfl);have HX:=Lib.hid hX;have HbX:=Lib.hid hbX;have q0:=q0 ⟨wr,Below.refl _ _⟩;have q1:=q1 ⟨wr,Below.refl _ _⟩;have q2:=q2 ⟨wr,Below.refl _ _⟩;simp only at q0 q1 q2;have hj0 : (0 : Int) ≤ (j : Int):=(by omega);have hjn : (j : Int) < (l.length : Int):=(by omega);by_cases hP : lU l[j]
      case neg=>
        have Hf:=Lib.hid (Hno.out fun h2=>hP (h2 j hlt hlt).1);rw [aP hP] at HN;clear hP Hno aG hgood hls Nq Hk hbel hX hbX HB;generalize l[j] = x at *;go_wp2_with fail;rw [← HX.out];refine wp_region_quiet_below (by kernel_rfl) (by kernel_rfl) ?_
        repeat (refine @wpQuiet_step _ _ _ _ _ _ _ ?_; intro K hK; go_simp; first | (refine hK _ ?_; clear hK K) | (apply Exists.intro; refine ⟨fun _=>?_,hK _ ?_⟩; (first | (go_at_call 173; exact Calls.aF (HN.out _))); clear hK K))
        refine wpQuiet_nil ?_;intro _ hw';obtain ⟨p,rfl⟩:=hw';go_wp2_with fail;go_ret;exact ⟨by rw [Hf.out]; rfl,HW2.out p⟩
      rw [aQ hP] at HN;by_cases hz : j = 0
      · have Hg:=Lib.hid (pX hgood.out hlt hP (fun m hm=>by omega));have hn0 : ¬ (0 : Int) < (j : Int):=(by omega);have hn1 : ¬ 0 < j:=(by omega);clear hP Hno aG hgood hls Nq Hk hz hbel hX hbX HB;generalize l[j] = x at *;go_wp2_with fail;rw [← HX.out];refine wp_region_quiet_below (by kernel_rfl) (by kernel_rfl) ?_
        repeat (refine @wpQuiet_step _ _ _ _ _ _ _ ?_; intro K hK; go_simp; first | (refine hK _ ?_; clear hK K) | (apply Exists.intro; refine ⟨fun _=>?_,hK _ ?_⟩; (first | (go_at_call 173; exact Calls.aF (HN.out _))); clear hK K))
        refine wpQuiet_nil ?_;intro _ hw';obtain ⟨p,rfl⟩:=hw';go_wp2_with fail
        go_roundw
        case rel=>exact ⟨j + 1,by omega,by go_num,Hg.out,HW2.out p⟩
        case measure=>simp [intOf]; omega
      obtain ⟨m,hm⟩ : ∃ m,m + 1 = j:=⟨j - 1,by omega⟩;have hml : m < l.length:=(by omega);obtain ⟨g',o',A3,c3,hA3,r0,r1,r2,eZ⟩:=rE Hk.out hbel hml;injection hA3 with hA3;injection hA3 with e1 e2;subst e1 e2;have HC:=Lib.hid (fun p : ak X=>nk (Ea l[m] l[j] f' f' _ _ p.v (eZ ⟨p.v,hbX.trans (p.h.mono hbX.size)⟩) (hls ⟨p.v,hbX.trans (p.h.mono hbX.size)⟩)));have R0 : ∀ p : ak X,p.v.cell? ⟨g,o + m * 3,none⟩ = some (.string l[m].key):=fun p=>r0 ⟨p.v,hbX.trans (p.h.mono hbX.size)⟩;have R1 : ∀ p : ak X,p.v.cell? ⟨g,o + m * 3 + 1,none⟩ = some (.int .i64 l[m].op):=fun p=>r1 ⟨p.v,hbX.trans (p.h.mono hbX.size)⟩;have R2 : ∀ p : ak X,p.v.cell? ⟨g,o + m * 3 + 2,none⟩ = some (.slice A3 l[m].values.length c3):=fun p=>r2 ⟨p.v,hbX.trans (p.h.mono hbX.size)⟩;have yZ : (j : Int) - 1 = (m : Int):=(by omega);have BN : IntKind.i64.wrap (m : Int) = (m : Int):=IntWalk.i64_in _ (by omega);have hm0 : (0 : Int) ≤ (m : Int):=(by omega);have hm1 : (m : Int) < (l.length : Int):=(by omega);have hjp : (0 : Int) < (j : Int):=(by omega);have Dw : 0 < j:=(by omega);have hb:=Cy l[m] l[j];by_cases hr : qJ l[m] l[j] < 0
      · rw [decide_eq_true hr] at hb
        have Hg:=Lib.hid (pX hgood.out hlt hP (fun m' hm'=>by
                                                                          obtain rfl : m' = m:=(by omega);exact hb.symm))
        have hr0 : ¬ (0 : Int) ≤ qJ l[m] l[j]:=(by omega);clear hP Hno aG hgood hls eZ Nq Hk hz hm hb hbel hX hbX HB r0 r1 r2;generalize qJ l[m] l[j] = r at HC hr0 hr;generalize l[j] = x at *;generalize l[m] = y at *;go_wp2_with fail;rw [← HX.out];refine wp_region_quiet_below (by kernel_rfl) (by kernel_rfl) ?_
        repeat (refine @wpQuiet_step _ _ _ _ _ _ _ ?_; intro K hK; go_simp; first | (refine hK _ ?_; clear hK K) | (apply Exists.intro; refine ⟨fun _=>?_,hK _ ?_⟩; (first | (go_at_call 173; exact Calls.aF (HN.out _)) | (go_at_call 100; exact Calls.aF (HC.out _))); clear hK K))
        refine wpQuiet_nil ?_;intro _ hw';obtain ⟨p,rfl⟩:=hw';go_wp2_with fail
        go_roundw
        case rel=>exact ⟨j + 1,by omega,by go_num,Hg.out,HW2.out p⟩
        case measure=>simp [intOf]; omega
      · rw [decide_eq_false hr] at hb
        have Hf:=Lib.hid (Hno.out fun h2=>by
          have:=(h2 j hlt hlt).2 m hm;rw [← hb] at this; cases this)
        have hr0 : (0 : Int) ≤ qJ l[m] l[j]:=(by omega);clear hP Hno aG hgood hls eZ Nq Hk hz hm hb hbel hX hbX HB r0 r1 r2;generalize qJ l[m] l[j] = r at HC hr0 hr;generalize l[j] = x at *;generalize l[m] = y at *;go_wp2_with fail;rw [← HX.out];refine wp_region_quiet_below (by kernel_rfl) (by kernel_rfl) ?_
        repeat (refine @wpQuiet_step _ _ _ _ _ _ _ ?_; intro K hK; go_simp; first | (refine hK _ ?_; clear hK K) | (apply Exists.intro; refine ⟨fun _=>?_,hK _ ?_⟩; (first | (go_at_call 173; exact Calls.aF (HN.out _)) | (go_at_call 100; exact Calls.aF (HC.out _))); clear hK K))
        refine wpQuiet_nil ?_;intro _ hw';obtain ⟨p,rfl⟩:=hw';go_wp2_with fail;go_ret;exact ⟨by rw [Hf.out]; rfl,HW2.out p⟩
    · obtain rfl : j = l.length:=(by omega);have Hf:=Lib.hid (aG.out hgood.out);clear hgood hbel;go_wp2_with fail;go_ret;exact ⟨by rw [Hf.out]; rfl,bg.out⟩
end need
namespace need
open Go.ChangeShapes Go.WideShapes Go.ChangeAt Go.RowKit ty lab
set_option maxRecDepth 100000 in
theorem Gf (l : List Need) (f : Nat) (v : Value) (w : World) (h : bf w f v (.sl 3 l.length (l.flatMap Need.row))) (hw : l.length + bH Need.wt l ≤ 1048576) :
    Calls Tryz.prog 101 #[v] w fun e w'=>e = .returned (.bool (yes (mF l))) ∧ Below w.heap.size w w':=by
  have HA:=Lib.hid (KX l f v w h (fun j hj=>by have:=ko Need.wt hj; omega));obtain ⟨A,c,rfl,hc1,hc2,f',rfl,hk⟩:=bD Need.au h;unfold maxLen at hc2;obtain ⟨R,hR⟩ : ∃ R,yes (mF l) = R:=⟨_,rfl⟩;rw [hR]
  have hcase : (¬ l.length ≤ 4 ∧ R = false) ∨ (l.length ≤ 4 ∧ R = yes (qy l l.length)):=by
    rw [← hR];by_cases h4 : l.length ≤ 4
    · refine .inr ⟨h4,?_⟩;by_cases hg : qy l l.length
      · rw [aQ hg]; exact aQ ⟨h4,hg⟩
      · rw [aP hg]; exact aP fun h=>hg h.2
    · exact .inl ⟨h4,aP fun h=>h4 h.1⟩
  clear h hk hR hw;generalize yes (qy l l.length) = b at HA hcase;rcases hcase with ⟨h4,hf⟩ | ⟨h4,hf⟩
  · have Hf:=Lib.hid hf;have g0 : ¬ (l.length : Int) ≤ 4:=(by omega);clear hf HA;go_enter Tryz.func101,Tryz.ntmps101;go_wp2_with fail;go_ret;exact ⟨by rw [Hf.out]; rfl,Below.refl _ _⟩
  · have Hf:=Lib.hid hf;have g0 : (l.length : Int) ≤ 4:=(by omega);clear hf;go_enter Tryz.func101,Tryz.ntmps101;go_wp2_with fail;refine HA.out.mono ?_;rintro e x1 ⟨rfl,hb⟩;have B1:=Lib.hid hb;clear hb;go_wp2_with fail;go_ret;exact ⟨by rw [Hf.out]; rfl,B1.out⟩
end need
namespace taint
open Go.ChangeShapes Go.WideShapes Go.ChangeAt Go.RowKit ty lab need
set_option maxRecDepth 100000 in
set_option maxHeartbeats 4000000 in
theorem Gg (a b : ByteArray) (n : Int) (w : World) (ha : a.size ≤ maxLen) (hb : b.size ≤ maxLen) :
    Calls Tryz.prog 217 #[.agg #[.string a,.string b,.int .i64 n]] w fun e w'=>e = .returned (.bool (yes (gP a ∧ gG b))) ∧ Below w.heap.size w w':=by
  have HL:=Lib.hid (fun w'=>zO ⟨a,b⟩ w' ⟨ha,hb⟩);simp only at HL;generalize yes (gP a ∧ gG b) = R at HL;clear ha hb;go_enter Tryz.func217,Tryz.ntmps217;go_wp2_with fail;refine (HL.out _).mono ?_;rintro e w1 ⟨rfl,hb⟩;go_wp2_with fail;go_ret;exact ⟨rfl,(Below.refl _ _).alloc (Nat.le_refl _) _ |>.trans (hb.mono (by simp))⟩
set_option maxRecDepth 100000 in
theorem Gh (a b : ByteArray) (n : Int) (w : World) :
    Calls Tryz.prog 216 #[.agg #[.string a,.string b,.int .i64 n]] w fun e w'=>e = .returned (.bool (yes (1 ≤ n ∧ n ≤ 2))) ∧ Below w.heap.size w w':=by
  have Hb : Hid (∀ o : Obj,Below w.heap.size w (w.alloc o)):=fun o=>(Below.refl _ _).alloc (Nat.le_refl _) o;by_cases h1 : n = 1
  · rw [aQ (by omega)];subst h1;go_enter Tryz.func216,Tryz.ntmps216;go_wp2_with fail;go_ret;exact ⟨rfl,Hb.out _⟩
  have e1 : (n == 1) = false:=beq_eq_false_iff_ne.2 h1;by_cases h2 : n = 2
  · rw [aQ (by omega)];subst h2;clear h1 e1;go_enter Tryz.func216,Tryz.ntmps216;go_wp2_with fail;go_ret;exact ⟨rfl,Hb.out _⟩
  have e2 : (n == 2) = false:=beq_eq_false_iff_ne.2 h2;rw [aP (by omega)];clear h1 h2;go_enter Tryz.func216,Tryz.ntmps216;go_wp2_with fail;go_ret;exact ⟨rfl,Hb.out _⟩
end taint
namespace taint
open Go.ChangeShapes Go.WideShapes Go.ChangeAt Go.RowKit ty lab
set_option maxRecDepth 100000 in
theorem JR (x : av) (w : World) :
    Calls Tryz.prog 182 #[.agg #[.string x.key,.string x.value,.int .i64 x.effect]] w fun e w'=>e = .returned (.agg #[.string x.key,.string x.value,.int .i64 x.effect]) ∧ Gr w w':=by
  obtain ⟨key,value,effect⟩:=x;have Hg : Hid (∀ a b : Obj,Gr w ((w.alloc a).alloc b)):=fun a b=>((Gr.refl w).alloc a).alloc b;go_enter Tryz.func182,Tryz.ntmps182;go_wp2_with fail;refine bodyPost_ret (v:=.agg #[.string key,.string value,.int .i64 effect]) ?_ rfl ⟨rfl,Hg.out _ _⟩;have hrow:=heap_alloc_new (w.alloc (.cells #[.string key,.string value,.int .i64 effect] 72)) (.cells #[.string key,.string value,.int .i64 effect] 193);have hs : (w.alloc (.cells #[.string key,.string value,.int .i64 effect] 72)).heap.size = w.heap.size + 1:=(by simp);rw [hs] at hrow;exact results_cell_row rfl _ _ (w.heap.size + 1) _ #[.string key,.string value,.int .i64 effect] (0,0) _ rfl hrow Tryz.underlying193 rfl (by kernel_rfl)
set_option maxRecDepth 100000 in
theorem JU (x : aj) (w : World) :
    Calls Tryz.prog 175 #[.agg #[.string x.key,.bool x.equal,.string x.value,.int .i64 x.effect]] w fun e w'=>e = .returned (.agg #[.string x.key,.string x.value,.int .i64 x.effect,.bool x.equal]) ∧ Gr w w':=by
  obtain ⟨key,equal,value,effect⟩:=x;have Hg : Hid (∀ a b : Obj,Gr w ((w.alloc a).alloc b)):=fun a b=>((Gr.refl w).alloc a).alloc b;go_enter Tryz.func175,Tryz.ntmps175;go_wp2_with fail;refine bodyPost_ret (v:=.agg #[.string key,.string value,.int .i64 effect,.bool equal]) ?_ rfl ⟨rfl,Hg.out _ _⟩;have hrow:=heap_alloc_new (w.alloc (.cells #[.string key,.bool equal,.string value,.int .i64 effect] 86)) (.cells #[.string key,.string value,.int .i64 effect,.bool equal] 185);have hs : (w.alloc (.cells #[.string key,.bool equal,.string value,.int .i64 effect] 86)).heap.size = w.heap.size + 1:=(by simp);rw [hs] at hrow;exact results_cell_row rfl _ _ (w.heap.size + 1) _ #[.string key,.string value,.int .i64 effect,.bool equal] (0,0) _ rfl hrow Tryz.underlying185 rfl (by kernel_rfl)
theorem QU (a b : Bool) (w : World) : Calls Tryz.prog 176 #[.bool a,.bool b] w fun e w'=>e = .returned (.int .i64 (MX a b)) ∧ w = w':=by
  cases a <;> cases b <;>
  · go_enter Tryz.func176,Tryz.ntmps176;go_wp2_with fail;go_ret;exact ⟨rfl,rfl⟩
end taint
namespace taint
open Go.ChangeShapes Go.WideShapes Go.ChangeAt Go.RowKit ty lab need
set_option maxRecDepth 100000 in
set_option maxHeartbeats 8000000 in
theorem N9 (x : aj) (w : World) (hw : x.Wf) :
    Calls Tryz.prog 179 #[.agg #[.string x.key,.bool x.equal,.string x.value,.int .i64 x.effect]] w fun e w'=>e = .returned (.bool (yes (qF x))) ∧ Below w.heap.size w w':=by
  rw [show yes (qF x) = yes ((0 ≤ x.effect ∧ x.effect ≤ 2) ∧ oG x.key x.equal x.value) from by congr 1; exact propext (JG x)];have HL:=Lib.hid (fun w'=>Gg x.key x.value x.effect w' hw.1 hw.2.1);have HE:=Lib.hid (fun w'=>Gh x.key x.value x.effect w');have HF:=Lib.hid (fun w'=>JU x w');have Hb0:=Lib.hid (fun o : Obj=>(Below.refl w.heap.size w).alloc (Nat.le_refl _) o);clear hw;obtain ⟨k,q,a,n⟩:=x;simp only at *;by_cases hn : n = 0 ∨ (1 ≤ n ∧ n ≤ 2)
  case neg=>
    have Hf:=Lib.hid (aP (p:=(0 ≤ n ∧ n ≤ 2) ∧ oG k q a) (fun h=>hn (by omega)));rw [aP (fun h=>hn (.inr h))] at HE;have e0 : (n != 0) = true:=bne_iff_ne.2 (fun h=>hn (.inl h));clear hn HL;go_enter Tryz.func179,Tryz.ntmps179;go_wp2_with fail;refine (HF.out _).mono ?_;rintro e w1 ⟨rfl,hg⟩;have Hb1:=Lib.hid (ah (Hb0.out _) hg.below (Hb0.out _).size);clear hg;go_wp2_with fail;refine (HE.out _).mono ?_;rintro e w2 ⟨rfl,hb⟩;have Hb2:=Lib.hid (ah (Hb1.out.alloc Hb1.out.size _) hb (Hb1.out.alloc Hb1.out.size _).size);clear hb;go_wp2_with fail;go_ret;exact ⟨by rw [Hf.out]; rfl,Hb2.out⟩
  have HT : Hid (yes ((0 ≤ n ∧ n ≤ 2) ∧ oG k q a) = yes (oG k q a)):=by
    unfold Hid
    congr 1
    exact propext ⟨fun h=>h.2,fun h=>⟨by omega,h⟩⟩
  rw [HT.out];clear HT;by_cases h0 : n = 0
  · subst h0;clear hn HE;cases q with
    | true=>
      have Hr : Hid (yes (oG k true a) = yes (gP k ∧ gG a)):=by
        unfold Hid
        congr 1
        refine propext ⟨fun h=>?_,fun h=>.inl ⟨rfl,h⟩⟩;rcases h with ⟨_,h⟩ | ⟨h,_⟩
        · exact h
        · cases h
      rw [Hr.out];clear Hr;generalize yes (gP k ∧ gG a) = R at HL ⊢;go_enter Tryz.func179,Tryz.ntmps179;go_wp2_with fail;refine (HF.out _).mono ?_;rintro e w1 ⟨rfl,hg⟩;have Hb1:=Lib.hid (ah (Hb0.out _) hg.below (Hb0.out _).size);clear hg;have Hb2:=Lib.hid (Hb1.out.alloc Hb1.out.size);go_wp2_with fail;refine (HL.out _).mono ?_;rintro e w3 ⟨rfl,hb⟩;have Hb3:=Lib.hid (ah (Hb2.out _) hb (Hb2.out _).size);clear hb;go_wp2_with fail;go_ret;exact ⟨rfl,Hb3.out⟩
    | false=>
      by_cases ha : a.size = 0
      case neg=>
        have Hf:=Lib.hid (aP (p:=oG k false a) (fun h=>by
          rcases h with ⟨h,_⟩ | ⟨_,h,_⟩
          · cases h
          · exact ha h))
        have e1:=lK ha;clear ha HL;go_enter Tryz.func179,Tryz.ntmps179;go_wp2_with fail;refine (HF.out _).mono ?_;rintro e w1 ⟨rfl,hg⟩;have Hb1:=Lib.hid (ah (Hb0.out _) hg.below (Hb0.out _).size);clear hg;have Hb2:=Lib.hid (Hb1.out.alloc Hb1.out.size);go_wp2_with fail;go_ret;exact ⟨by rw [Hf.out]; rfl,Hb2.out _⟩
      have e1:=jS ha;by_cases hk : k.size = 0
      · have Hf:=Lib.hid (aQ (p:=oG k false a) (.inr ⟨rfl,ha,.inl hk⟩));have e2:=jS hk;clear ha hk HL;go_enter Tryz.func179,Tryz.ntmps179;go_wp2_with fail;refine (HF.out _).mono ?_;rintro e w1 ⟨rfl,hg⟩;have Hb1:=Lib.hid (ah (Hb0.out _) hg.below (Hb0.out _).size);clear hg;have Hb2:=Lib.hid (Hb1.out.alloc Hb1.out.size);go_wp2_with fail;go_ret;exact ⟨by rw [Hf.out]; rfl,Hb2.out _⟩
      have e2:=lK hk
      have Hf : Hid (yes (oG k false a) = yes (gP k ∧ gG a)):=by
        unfold Hid
        congr 1
        refine propext ⟨fun h=>?_,fun h=>.inr ⟨rfl,ha,.inr h.1⟩⟩;rcases h with ⟨h,_⟩ | ⟨_,_,h⟩
        · cases h
        · rcases h with h | h
          · exact absurd h hk
          · exact ⟨h,.inl ha⟩
      rw [Hf.out];clear Hf ha hk;generalize yes (gP k ∧ gG a) = R at HL ⊢;go_enter Tryz.func179,Tryz.ntmps179;go_wp2_with fail;refine (HF.out _).mono ?_;rintro e w1 ⟨rfl,hg⟩;have Hb1:=Lib.hid (ah (Hb0.out _) hg.below (Hb0.out _).size);clear hg;have Hb2:=Lib.hid (Hb1.out.alloc Hb1.out.size);go_wp2_with fail;refine (HL.out _).mono ?_;rintro e w3 ⟨rfl,hb⟩;have Hb3:=Lib.hid (ah (Hb2.out _) hb (Hb2.out _).size);clear hb;go_wp2_with fail;go_ret;exact ⟨rfl,Hb3.out⟩
  have e0 : (n != 0) = true:=bne_iff_ne.2 h0;rw [aQ (hn.resolve_left h0)] at HE;clear hn h0;cases q with
  | true=>
    have Hr : Hid (yes (oG k true a) = yes (gP k ∧ gG a)):=by
      unfold Hid
      congr 1
      refine propext ⟨fun h=>?_,fun h=>.inl ⟨rfl,h⟩⟩;rcases h with ⟨_,h⟩ | ⟨h,_⟩
      · exact h
      · cases h
    rw [Hr.out];clear Hr;generalize yes (gP k ∧ gG a) = R at HL ⊢;go_enter Tryz.func179,Tryz.ntmps179;go_wp2_with fail;refine (HF.out _).mono ?_;rintro e w1 ⟨rfl,hg⟩;have Hb1:=Lib.hid (ah (Hb0.out _) hg.below (Hb0.out _).size);clear hg;go_wp2_with fail;refine (HE.out _).mono ?_;rintro e w2 ⟨rfl,hb⟩;have hr:=(aC.new 185 w1 [.string k,.string a,.int .i64 n,.bool true]).below hb;have c0:=hr.cell 0 _ rfl;have c1:=hr.cell 1 _ rfl;have c2:=hr.cell 2 _ rfl;have c3:=hr.cell 3 _ rfl;have Hb2:=Lib.hid (ah (Hb1.out.alloc Hb1.out.size _) hb (Hb1.out.alloc Hb1.out.size _).size);clear hb hr;go_wp2_with fail;refine (HL.out _).mono ?_;rintro e w3 ⟨rfl,hb⟩;have Hb3:=Lib.hid (ah Hb2.out hb Hb2.out.size);clear hb;go_wp2_with fail;go_ret;exact ⟨rfl,Hb3.out⟩
  | false=>
    by_cases ha : a.size = 0
    case neg=>
      have Hf:=Lib.hid (aP (p:=oG k false a) (fun h=>by
        rcases h with ⟨h,_⟩ | ⟨_,h,_⟩
        · cases h
        · exact ha h))
      have e1:=lK ha;clear ha HL;go_enter Tryz.func179,Tryz.ntmps179;go_wp2_with fail;refine (HF.out _).mono ?_;rintro e w1 ⟨rfl,hg⟩;have Hb1:=Lib.hid (ah (Hb0.out _) hg.below (Hb0.out _).size);clear hg;go_wp2_with fail;refine (HE.out _).mono ?_;rintro e w2 ⟨rfl,hb⟩;have hr:=(aC.new 185 w1 [.string k,.string a,.int .i64 n,.bool false]).below hb;have c0:=hr.cell 0 _ rfl;have c1:=hr.cell 1 _ rfl;have c2:=hr.cell 2 _ rfl;have c3:=hr.cell 3 _ rfl;have Hb2:=Lib.hid (ah (Hb1.out.alloc Hb1.out.size _) hb (Hb1.out.alloc Hb1.out.size _).size);clear hb hr;go_wp2_with fail;go_ret;exact ⟨by rw [Hf.out]; rfl,Hb2.out⟩
    have e1:=jS ha;by_cases hk : k.size = 0
    · have Hf:=Lib.hid (aQ (p:=oG k false a) (.inr ⟨rfl,ha,.inl hk⟩));have e2:=jS hk;clear ha hk HL;go_enter Tryz.func179,Tryz.ntmps179;go_wp2_with fail;refine (HF.out _).mono ?_;rintro e w1 ⟨rfl,hg⟩;have Hb1:=Lib.hid (ah (Hb0.out _) hg.below (Hb0.out _).size);clear hg;go_wp2_with fail;refine (HE.out _).mono ?_;rintro e w2 ⟨rfl,hb⟩;have hr:=(aC.new 185 w1 [.string k,.string a,.int .i64 n,.bool false]).below hb;have c0:=hr.cell 0 _ rfl;have c1:=hr.cell 1 _ rfl;have c2:=hr.cell 2 _ rfl;have c3:=hr.cell 3 _ rfl;have Hb2:=Lib.hid (ah (Hb1.out.alloc Hb1.out.size _) hb (Hb1.out.alloc Hb1.out.size _).size);clear hb hr;go_wp2_with fail;go_ret;exact ⟨by rw [Hf.out]; rfl,Hb2.out⟩
    have e2:=lK hk
    have Hf : Hid (yes (oG k false a) = yes (gP k ∧ gG a)):=by
      unfold Hid
      congr 1
      refine propext ⟨fun h=>?_,fun h=>.inr ⟨rfl,ha,.inr h.1⟩⟩;rcases h with ⟨h,_⟩ | ⟨_,_,h⟩
      · cases h
      · rcases h with h | h
        · exact absurd h hk
        · exact ⟨h,.inl ha⟩
    rw [Hf.out];clear Hf ha hk;generalize yes (gP k ∧ gG a) = R at HL ⊢;go_enter Tryz.func179,Tryz.ntmps179;go_wp2_with fail;refine (HF.out _).mono ?_;rintro e w1 ⟨rfl,hg⟩;have Hb1:=Lib.hid (ah (Hb0.out _) hg.below (Hb0.out _).size);clear hg;go_wp2_with fail;refine (HE.out _).mono ?_;rintro e w2 ⟨rfl,hb⟩;have hr:=(aC.new 185 w1 [.string k,.string a,.int .i64 n,.bool false]).below hb;have c0:=hr.cell 0 _ rfl;have c1:=hr.cell 1 _ rfl;have c2:=hr.cell 2 _ rfl;have c3:=hr.cell 3 _ rfl;have Hb2:=Lib.hid (ah (Hb1.out.alloc Hb1.out.size _) hb (Hb1.out.alloc Hb1.out.size _).size);clear hb hr;go_wp2_with fail;refine (HL.out _).mono ?_;rintro e w3 ⟨rfl,hb⟩;have Hb3:=Lib.hid (ah Hb2.out hb Hb2.out.size);clear hb;go_wp2_with fail;go_ret;exact ⟨rfl,Hb3.out⟩
end taint
namespace taint
open Go.ChangeShapes Go.WideShapes Go.ChangeAt Go.RowKit ty lab need
def JQ (w : World) (u0 u1 u2 v0 v1 v2 : Value) (w' : World) : Prop:=Gr w w' ∧ w'.cell? ⟨w.heap.size,0,none⟩ = some u0 ∧ w'.cell? ⟨w.heap.size,1,none⟩ = some u1 ∧ w'.cell? ⟨w.heap.size,2,none⟩ = some u2 ∧ w'.cell? ⟨w.heap.size + 1,0,none⟩ = some v0 ∧ w'.cell? ⟨w.heap.size + 1,1,none⟩ = some v1 ∧ w'.cell? ⟨w.heap.size + 1,2,none⟩ = some v2
theorem JQ.keep {w a b : World} {u0 u1 u2 v0 v1 v2 : Value} (h : JQ w u0 u1 u2 v0 v1 v2 a) (g : Gr a b) : JQ w u0 u1 u2 v0 v1 v2 b:=
  ⟨h.1.trans g,dI h.2.1 g,dI h.2.2.1 g,dI h.2.2.2.1 g,dI h.2.2.2.2.1 g,dI h.2.2.2.2.2.1 g,dI h.2.2.2.2.2.2 g⟩
set_option maxRecDepth 100000 in
set_option maxHeartbeats 8000000 in
theorem xY (k1 a1 : ByteArray) (n1 : Int) (k2 a2 : ByteArray) (n2 : Int) (w : World) :
    Calls Tryz.prog 177 #[.agg #[.string k1,.string a1,.int .i64 n1],.agg #[.string k2,.string a2,.int .i64 n2]] w fun e w'=>e = .returned (.int .i64 (Jp (fC k1 k2) (fC a1 a2) (arith.qE n1 n2))) ∧ Gr w w':=by
  obtain ⟨W,hW⟩ : ∃ W,W = (w.alloc (.cells #[.string k1,.string a1,.int .i64 n1] 183)).alloc (.cells #[.string k2,.string a2,.int .i64 n2] 183):=⟨_,rfl⟩;have hgr : Gr w W:=(by rw [hW]; exact ((Gr.refl w).alloc _).alloc _)
  have hb1 : W.heap[w.heap.size]? = some (.cells #[.string k1,.string a1,.int .i64 n1] 183 (0,0)):=by
    rw [hW,Below.heap_alloc _ _ _ (by simp)];exact heap_alloc_new w _
  have hb2 : W.heap[w.heap.size + 1]? = some (.cells #[.string k2,.string a2,.int .i64 n2] 183 (0,0)):=by
    rw [hW];have h:=heap_alloc_new (w.alloc (.cells #[.string k1,.string a1,.int .i64 n1] 183)) (.cells #[.string k2,.string a2,.int .i64 n2] 183);simpa using h
  have p0 : W.cell? ⟨w.heap.size,0,none⟩ = some (.string k1):=(by rw [cell_of_row _ _ _ _ _ _ hb1]; rfl);have p1 : W.cell? ⟨w.heap.size,1,none⟩ = some (.string a1):=(by rw [cell_of_row _ _ _ _ _ _ hb1]; rfl);have p2 : W.cell? ⟨w.heap.size,2,none⟩ = some (.int .i64 n1):=(by rw [cell_of_row _ _ _ _ _ _ hb1]; rfl);have q0 : W.cell? ⟨w.heap.size + 1,0,none⟩ = some (.string k2):=(by rw [cell_of_row _ _ _ _ _ _ hb2]; rfl);have q1 : W.cell? ⟨w.heap.size + 1,1,none⟩ = some (.string a2):=(by rw [cell_of_row _ _ _ _ _ _ hb2]; rfl);have q2 : W.cell? ⟨w.heap.size + 1,2,none⟩ = some (.int .i64 n2):=(by rw [cell_of_row _ _ _ _ _ _ hb2]; rfl);have HS:=Lib.hid (fun a b w'=>Tryz.strings_Compare a b w');have HI:=Lib.hid (fun w'=>arith.rH n1 n2 w');have hc1 : Lib.compareBytes k1.data.toList k2.data.toList = fC k1 k2:=rfl;have hc2 : Lib.compareBytes a1.data.toList a2.data.toList = fC a1 a2:=rfl
  have HO:=Lib.hid (show Calls Tryz.prog 169 #[.slice (some ⟨W.heap.size,0,none⟩) 3 3] (W.alloc (.cells #[.int .i64 (fC k1 k2),.int .i64 (fC a1 a2),.int .i64 (arith.qE n1 n2)] 3)).drew fun e w'=>e = .returned (.int .i64 (Jp (fC k1 k2) (fC a1 a2) (arith.qE n1 n2))) ∧ (W.alloc (.cells #[.int .i64 (fC k1 k2),.int .i64 (fC a1 a2),.int .i64 (arith.qE n1 n2)] 3)).drew = w' by
    rw [← xB];exact D8 [fC k1 k2,fC a1 a2,arith.qE n1 n2] (some ⟨W.heap.size,0,none⟩) 3 _ (by simp) ((zT W _ _ _ _).drewN 1))
  rw [← hc1,← hc2] at HO ⊢;generalize arith.qE n1 n2 = b at HI HO ⊢;have nI:=Lib.hid hgr;have HW:=Lib.hid hW;clear hgr hb1 hb2 hc1 hc2;go_enter Tryz.func177,Tryz.ntmps177;go_wp2_with fail;rw [← hW];clear hW;have h6 : JQ w (.string k1) (.string a1) (.int .i64 n1) (.string k2) (.string a2) (.int .i64 n2) W:=⟨nI.out,p0,p1,p2,q0,q1,q2⟩;clear p0 p1 p2 q0 q1 q2 HW;have H6:=Lib.hid h6;clear h6;go_region_held3 (fun w'=>Gr w w' ∧ w'.cell? ⟨w.heap.size,0,none⟩ = some (.string k1) ∧ w'.cell? ⟨w.heap.size,1,none⟩ = some (.string a1) ∧ w'.cell? ⟨w.heap.size,2,none⟩ = some (.int .i64 n1) ∧ w'.cell? ⟨w.heap.size + 1,0,none⟩ = some (.string k2) ∧ w'.cell? ⟨w.heap.size + 1,1,none⟩ = some (.string a2) ∧ w'.cell? ⟨w.heap.size + 1,2,none⟩ = some (.int .i64 n2)) (first | assumption | exact H6.out.keep (Gr.refl _).drew | exact JQ.keep (by assumption) ((Gr.refl _).alloc _) | exact JQ.keep (by assumption) (by assumption)) (first | (go_at_call 98; refine (HS.out _ _ _).mono ?_; rintro e w1 ⟨rfl,rfl⟩) | (go_at_call 170; refine (HI.out _).mono ?_; rintro e w1 ⟨rfl,rfl⟩) | (go_at_call 169; refine HO.out.mono ?_; rintro e w1 ⟨rfl,rfl⟩))
  all_goals
    go_wp2_with fail;go_ret;exact ⟨rfl,(nI.out.alloc _).drew⟩
end taint
section
open Go Go.RowKit
theorem aC.gr {e : TypeId} {w a : World} {g : Nat} {us : List Value} (h : aC e w g us) (k : Gr w a) : aC e a g us:=h.below k.below
theorem Gr.setRow {w a : World} {g : Nat} (h : Gr w a) (hg : w.heap.size ≤ g) (c : Array Value) : Gr w (a.setRow g c):=by
  obtain ⟨q,os,rfl⟩:=h;refine ⟨q,os.modify (g - w.heap.size) (fun | .cells _ t f=>.cells c t f | o=>o),?_⟩
  have e : (w.heap ++ os).modify g (fun | .cells _ t f=>.cells c t f | o=>o) = w.heap ++ os.modify (g - w.heap.size) (fun | .cells _ t f=>.cells c t f | o=>o):=by
    apply Array.ext_getElem?;intro i;rw [Array.getElem?_modify,Array.getElem?_append,Array.getElem?_append,Array.getElem?_modify];by_cases hi : i < w.heap.size
    · rw [if_pos hi,if_pos hi,if_neg (by omega)]
    · rw [if_neg hi,if_neg hi];by_cases hgi : g = i
      · rw [if_pos hgi,if_pos (by omega)]
      · rw [if_neg hgi,if_neg (by omega)]
  show ({ Sort.grow (w.drewN q) os with heap:=_ } : World) = _;unfold Sort.grow;simp only [World.drewN]
  congr 1
theorem bS {e : TypeId} {w : World} {g x : Nat} {us : List Value} {vs : Array Value} (h : x ≠ g) (hr : aC e w x us) : aC e (w.setRow g vs) x us:=by
  unfold aC at *;rw [← hr];simp only [World.setRow,Array.getElem?_modify];rw [if_neg (fun e=>h e.symm)]
theorem aC.set {e : TypeId} {w : World} {g : Nat} {us vs : List Value} (h : aC e w g us) : aC e (w.setRow g vs.toArray) g vs:=aI h
theorem aY {P : Program} {ops : Array Oper} {o : Oper} {a : Act} {w : World} {K : Act → World → Prop} {Q : Exit → Act → World → Prop} {E : Prop} (hg : o.guard = none) (ty : TypeId) (x y : Operand) (ho : o.op = .store ty x y)
    (g : Nat) (cells : Array Value) (hx : a.eval x = .pointer (some ⟨g,0,none⟩)) (hy : a.eval y = .agg cells) (t : TypeId) (old : List Value) (hgd : aC t w g old) (hi : (P.info? ty).map (·.size) = some cells.size)
    (hold : old.toArray.size = cells.size) (h1 : cells.all (·.oneCell') = true) (h : K (a.put o.dst undef) (w.setRow g cells)) : if Region.wanted o (yielded ops a.tmps) = true then Oper.wp P o a w K Q else E:=by
  have hw : Region.wanted o (yielded ops a.tmps) = true:=(by simp [Region.wanted,hg]);rw [if_pos hw];exact wp_store_row ty x y ho g cells hx hy t old.toArray hgd hi hold h1 h
end
namespace pod
open Go.ChangeShapes Go.WideShapes Go.ChangeAt Go.RowKit ty lab need taint
theorem qb {P : Program} {f : FuncId} {args : Array Value} {w : World} {E : Ending} (h : Calls P f args w fun e w'=>e = E ∧ ∃ n,w' = w.drewN n) : Calls P f args w fun e w'=>e = E ∧ Below w.heap.size w w':=
  h.mono fun _ _ ⟨he,n,hn⟩=>⟨he,by rw [hn]; exact below_drewN (Below.refl _ _) _⟩
theorem vS (n a b : Int) (w : World) : Calls Tryz.prog 53 #[.int .i64 n,.int .i64 a,.int .i64 b] w fun e w'=>e = .returned (.bool (yes (a ≤ n ∧ n ≤ b))) ∧ Below w.heap.size w w':=
  (DJ n w a b).mono fun _ _ ⟨he,hn⟩=>⟨he,by rw [← hn]; exact Below.refl _ _⟩
end pod
namespace need
open Go Go.RowKit ty lab dedup
theorem CB {α : Type} {lt : α → α → Bool} (o : Ord lt) {l : List α} (h : ∀ i (hi : i < l.length) m (hm : m + 1 = i),lt (l[m]'(by omega)) l[i] = true) : Asc lt l:=by
  unfold Asc;rw [List.pairwise_iff_getElem];intro i j hi hj hij
  induction j with
  | zero=>omega
  | succ j ih=>
    have hs:=h (j + 1) hj j rfl;by_cases e : i = j
    · subst e; exact hs
    · exact o.tr _ _ _ (ih (by omega) (by omega)) hs
theorem KY {y : Need} (h : lU y) : kH y = y:=by
  have e : aU aJ y.values = y.values:=by
    by_cases ho : y.op < 3
    · exact wS Wh _ (CB Wh fun i hi m hm=>((h.some ho).2.2 i hi hi).2 m hm)
    · have:=List.eq_nil_of_length_eq_zero (h.none (by omega));rw [this]; rfl
  cases y;unfold kH;simp only at e ⊢;rw [e]
theorem Gi {y : Need} (h : lU y) : y.values.length ≤ 4:=by
  by_cases ho : y.op < 3
  · exact (h.some ho).2.1
  · have:=h.none (by omega); omega
theorem Gj (l : List Need) : iF l = (l,false) ∨ (iF l = (fH l,true) ∧ mF (fH l)):=by
  by_cases h : l.length ≤ 40 ∧ lC l l.length ∧ mF (fH l)
  · exact .inr ⟨j5 h,h.2.2⟩
  · exact .inl (kI h)
end need
namespace pod
open Go Go.RowKit ty lab need taint dedup
theorem uS {l : List Label} (h : dw l) : eB l = (l,true):=vG (List.Perm.refl l) ((oF h).imp nS) h
theorem zU {l : List Label} (h : dw (eB l).1) : (eB l).2 = true:=by
  by_cases hc : (eB l).2 = true
  · exact hc
  · have e : (eB l).1 = l:=by
      unfold eB at hc ⊢
      split at hc
      · exact absurd rfl hc
      · rename_i h2; rw [if_neg h2]
    rw [e] at h;rw [uS h]
theorem zV {l : List Need} (h : mF l) : iF l = (l,true):=by
  have hl : l.reverse.reverse = l:=List.reverse_reverse l
  have hg : ∀ y ∈ l,lU y:=fun y hy=>by
    obtain ⟨i,hi,rfl⟩:=List.getElem_of_mem hy;exact (h.2 i hi hi).1
  have e : l.map kH = l:=by
    have h2:=List.map_congr_left (f:=kH) (g:=id) (l:=l) fun y hy=>KY (hg y hy);rw [h2,List.map_id]
  have eo : fH l = l:=by
    unfold fH;rw [e];exact wS Wi _ (CB Wi fun i hi m hm=>(h.2 i hi hi).2 m hm)
  rw [j5 ⟨by have:=h.1; omega,fun i hi _=>by
    have:=Gi (h.2 i hi hi).1;omega,by rw [eo]; exact h⟩,eo]
theorem Iw {l : List Need} (h : mF (iF l).1) : (iF l).2 = true:=by
  rcases Gj l with e | ⟨e,_⟩
  · rw [e] at h;rw [zV h]
  · rw [e]
theorem qc {α : Type} {Q : α → Prop} {lt : α → α → Bool} (o : Ord lt) {P : List α → Prop} {l : List α} (h4 : l.length ≤ 40) (hP : P l) (hg : fE Q lt l l.length) : dK P lt l = (l,true):=by
  have e:=wS o l (Kq o hg);rw [mJ ⟨h4,by rw [e]; exact hP⟩,e]
theorem Iy {l : List av} (h : bL (dK bL bA l).1) : (dK bL bA l).2 = true:=by
  rcases jY (lt:=bA) bL l with e | ⟨e,_⟩
  · rw [e] at h;rw [qc ER (by have:=h.1; omega) h h.2]
  · rw [e]
theorem Iz {l : List aj} (h : dN (dK dN bU l).1) : (dK dN bU l).2 = true:=by
  rcases jY (lt:=bU) dN l with e | ⟨e,_⟩
  · rw [e] at h;rw [qc ES (by have:=h.1; omega) h h.2]
  · rw [e]
theorem Eb {x : Pod} (h : qG (ji x)) : ni x = (ji x,true):=FT (zU h.labels) (Iw h.needs) (Iz h.tolerances) h
theorem Gl {x : Pod} (h : ¬ qG (ji x)) : ni x = (x,false):=JL fun h2=>h h2.2.2.2
theorem zW {x : Host} (h : kU (fP x)) : iZ x = (fP x,true):=Ct (zU h.labels) (Iy h.bP) h
theorem CF {x : Host} (h : ¬ kU (fP x)) : iZ x = (x,false):=FU fun h2=>h h2.2.2
end pod
namespace lab
open Go.ChangeShapes Go.WideShapes Go.ChangeAt Go.RowKit ty
set_option maxRecDepth 100000 in
theorem uf (l : List Label) (f : Nat) (v : Value) (w : World) (h : bf w f v (.sl 2 l.length (l.flatMap Label.row))) (hn : l.length ≤ 1048576) :
    Calls Tryz.prog 91 #[v] w fun e w'=>∃ g c,e = .returned (.slice (some ⟨g,0,none⟩) l.length c) ∧ w'.ownsRow w.heap.size 65 2 (.slice (some ⟨g,0,none⟩) l.length c) l.length (lvals l) ∧ Below w.heap.size w w':=by
  obtain ⟨A,c,rfl,hc1,hc2,f',rfl,hk⟩:=bD Label.au h;unfold maxLen at hc2;have Hr:=Lib.hid (gI hk).1;clear h hk;obtain ⟨i0,hi,hz0,hz1,hz2⟩:=info_parts TryzinfoLab
  have kX : Hid ((w.alloc (.cells #[] 65)).ownsRow w.heap.size 65 2 (.slice (some ⟨w.heap.size,0,none⟩) 0 0) 0 []):=
    World.ownsRow_lit w #[] 0 (Nat.le_refl _) (by simp [maxLen]) rfl
  have Hb:=Lib.hid (fun o=>(Below.refl w.heap.size w).alloc (Nat.le_refl _) o);have hn2:=Lib.hid hn;clear hn;go_enter Tryz.func91,Tryz.ntmps91;go_wp2_with (first | (at_builtin; refine aB rfl (.tmp 3) (.tmp 4) 24 rfl w.heap.size 65 i0 _ 2 32 Tryz.underlying24 hi hz0 hz1 hz2 rfl (by decide) _ 0 [] rfl kX.out A l.length c (lvals l) rfl (Hr.out.below (Hb.out _)) (iU _) (by have:=hn2.out; unfold maxLen; omega) (by have:=hn2.out; omega) (by simp) ?_; intro v1 w1 o1 o2 o3) | fail)
  try rw [Nat.zero_add,List.nil_append] at o1
  have hbel : Below w.heap.size w w1:=(Hb.out _).grown o2 (by simp) (fun q hq=>(kX.out.lt q hq).1)
  obtain ⟨x,hx⟩ : ∃ x,v1.ownBlock = some x:=by
    rcases o3 with e | e
    · exact ⟨_,e.trans rfl⟩
    · exact ⟨_,e⟩
  obtain ⟨c1,rfl,_⟩:=iB o1 hx;have O:=Lib.hid (show ∃ g c,Ending.returned (.slice (some ⟨x,0,none⟩) l.length c1) = .returned (.slice (some ⟨g,0,none⟩) l.length c) ∧ w1.ownsRow w.heap.size 65 2 (.slice (some ⟨g,0,none⟩) l.length c) l.length (lvals l) ∧ Below w.heap.size w w1 from ⟨x,c1,rfl,o1,hbel⟩);clear o1 o2 o3 hx hbel kX Hb Hr;go_wp2_with fail;go_ret;exact O.out
end lab
namespace pod
open Go Go.RowKit ty
def kL {α : Type} (row : α → List C) (w w' : World) (e : Ending) (r : α × Bool) : Prop:=
  ∃ us D F,e = .returned (.tuple #[.agg us.toArray,.bool r.2]) ∧ bq w' w.heap.size (D + 1) us (row r.1) F ∧ F.Nodup ∧ Below w.heap.size w w'
theorem gF {w : World} {B f : Nat} {vs : List Value} {ds : List C} {F : List Nat} {g : Nat} {c : Array Value} (h : bq w B f vs ds F) (hg : g < B) : bq (w.setRow g c) B f vs ds F:=
  h.kept fun x hx=>by
    have:=(h.range x hx).1;simp only [World.setRow,Array.getElem?_modify];rw [if_neg (by omega)]
theorem lD {P : Program} {IT : TypeId} {fn : Func} {c d : Tmp} {tmps : Array Value} {w : World} {g : Nat} {vs : List Value} {b : Bool} {n : Nat} (h : fn.results = #[.cell c IT,.tmp d])
    (hc : tmps.getD c undef = .pointer (some ⟨g,0,none⟩)) (hd : tmps.getD d undef = .bool b) (hsz : vs.toArray.size = n) (hu : (∃ fs,P.underlying IT = some (.struct fs))) (hs : (P.info? IT).map (·.size) = some n)
    (hg : aC IT w g vs) : (results fn tmps).run P w = .ok (.tuple #[.agg vs.toArray,.bool b]) w:=by
  obtain ⟨fs,hu⟩:=hu;have hl:=run_loadVar_row (P:=P) w g _ IT vs.toArray (0,0) _ hg hu rfl (by rw [hsz]; exact hs)
  have e : (results fn tmps).run P w = ((asAddr (tmps.getD c undef)).run P w).andThen fun a w1=>((loadVar IT a).run P w1).andThen fun v w2=>.ok (.tuple #[v,tmps.getD d undef]) w2:=by
    simp only [results,h];simp [Sem.run_bind,Result.andThen]
  rw [e,hc,hd];simp [asAddr,Result.andThen,hl]
end pod
end Go.Proofs.YtcfbkfmkjggcdaaGreatDoor
