/- spec.Tolerates. -/
import Derived.Test.YtpadpiibiocabaaDoorGSp
import Derived.Test.YtpadpiibiocabaaDoorGTnP
import Derived.Test.YtpadpiibiocabaaDoorGQ
namespace Go.Proofs.YtpadpiibiocabaaDoor.taint
open Go.ChangeShapes Go.WideShapes Go.ChangeAt Go.RowKit ty lab need
set_option linter.unusedVariables false

set_option maxRecDepth 100000 in
set_option maxHeartbeats 32000000 in
theorem spec_tlr (t : Tolerance) (x : Taint) (w : World) (ht : t.wt ≤ 1048576) (hx : x.wt ≤ 1048576) :
    Calls Tryd.prog 19 #[.agg #[.string t.key, .bool t.equal, .string t.value, .int .i64 t.effect], .agg #[.string x.key, .string x.value, .int .i64 x.effect]] w fun e w' => e = .returned (.bool (tolF t x)) ∧ Below w.heap.size w w' := by
  rw [tolF_eq]
  have HT := Lib.hid (fun w' => spec_tol t w' ht)
  have HX := Lib.hid (fun w' => spec_taint x w' hx)
  clear ht hx
  obtain ⟨k, q, a, n⟩ := t
  obtain ⟨xk, xa, xn⟩ := x
  simp only at *
  have c1 := emp_yes k
  have c2 := str_yes k xk
  have c3 := str_yes a xa
  have c4 := int_yes n 0
  have c5 := int_yes n xn
  generalize yes (k.size = 0) = d1 at c1 ⊢
  generalize yes (k = xk) = d2 at c2 ⊢
  generalize yes (a = xa) = d3 at c3 ⊢
  generalize yes (n = 0) = d4 at c4 ⊢
  generalize yes (n = xn) = d5 at c5 ⊢
  generalize yes (TolP ⟨k, q, a, n⟩) = b1 at HT ⊢
  generalize yes (TaintP ⟨xk, xa, xn⟩) = b2 at HX ⊢
  have h1 : Hid (∀ w1, Below (w.alloc (.cells #[.string k, .bool q, .string a, .int .i64 n] 30) |>.alloc (.cells #[.string xk, .string xa, .int .i64 xn] 32)).heap.size (w.alloc (.cells #[.string k, .bool q, .string a, .int .i64 n] 30) |>.alloc (.cells #[.string xk, .string xa, .int .i64 xn] 32)) w1 → RowE 30 w1 w.heap.size [.string k, .bool q, .string a, .int .i64 n] ∧ RowE 32 w1 (w.heap.size + 1) [.string xk, .string xa, .int .i64 xn] ∧ Below w.heap.size w w1) := fun w1 hb => by
    have r1 := ((RowE.new 30 w [.string k, .bool q, .string a, .int .i64 n]).alloc (e2 := 32) (vs := [.string xk, .string xa, .int .i64 xn])).below hb
    have r2 := (RowE.new 32 (w.alloc (.cells #[.string k, .bool q, .string a, .int .i64 n] 30)) [.string xk, .string xa, .int .i64 xn]).below hb
    rw [show (w.alloc (.cells #[.string k, .bool q, .string a, .int .i64 n] 30)).heap.size = w.heap.size + 1 by simp] at r2
    have hB := ((Below.refl w.heap.size w).alloc (Nat.le_refl _) (.cells #[.string k, .bool q, .string a, .int .i64 n] 30)).alloc (by simp) (.cells #[.string xk, .string xa, .int .i64 xn] 32)
    exact ⟨r1, r2, below_link hB hb hB.size⟩
  cases b1 with
  | false =>
    go_enter Tryd.func19, Tryd.ntmps19
    go_wp2_with fail
    refine (HT.out _).mono ?_
    rintro e w1 ⟨rfl, hb⟩
    have hB := Lib.hid (h1.out w1 hb).2.2
    clear hb
    go_wp2_with fail
    go_ret
    exact ⟨rfl, hB.out⟩
  | true =>
  cases b2 with
  | false =>
    go_enter Tryd.func19, Tryd.ntmps19
    go_wp2_with fail
    refine (HT.out _).mono ?_
    rintro e w1 ⟨rfl, hb⟩
    obtain ⟨r1, r2, hB⟩ := h1.out w1 hb
    have q0 := r2.cell 0 _ rfl
    have q1 := r2.cell 1 _ rfl
    have q2 := r2.cell 2 _ rfl
    have hB := Lib.hid hB
    clear hb r1 r2
    go_wp2_with fail
    refine (HX.out _).mono ?_
    rintro e w2 ⟨rfl, hb⟩
    have hB2 := Lib.hid (below_link hB.out hb hB.out.size)
    clear hb
    go_wp2_with fail
    go_ret
    exact ⟨rfl, hB2.out⟩
  | true =>
  rcases or_ways d1 d2 with rfl | ⟨rfl, rfl⟩ | ⟨rfl, rfl⟩ <;> rcases not_ways q d3 with rfl | ⟨rfl, rfl⟩ | ⟨rfl, rfl⟩ <;> rcases or_ways d4 d5 with rfl | ⟨rfl, rfl⟩ | ⟨rfl, rfl⟩ <;>
  · go_enter Tryd.func19, Tryd.ntmps19
    go_wp2_with fail
    refine (HT.out _).mono ?_
    rintro e w1 ⟨rfl, hb⟩
    obtain ⟨r1, r2, hB⟩ := h1.out w1 hb
    have q0 := r2.cell 0 _ rfl
    have q1 := r2.cell 1 _ rfl
    have q2 := r2.cell 2 _ rfl
    have R1 := Lib.hid r1
    have R2 := Lib.hid r2
    have hB := Lib.hid hB
    clear hb r1 r2
    go_wp2_with fail
    refine (HX.out _).mono ?_
    rintro e w2 ⟨rfl, hb⟩
    have z0 := (R1.out.below hb).cell 0 _ rfl
    have z1 := (R1.out.below hb).cell 1 _ rfl
    have z2 := (R1.out.below hb).cell 2 _ rfl
    have z3 := (R1.out.below hb).cell 3 _ rfl
    have y0 := (R2.out.below hb).cell 0 _ rfl
    have y1 := (R2.out.below hb).cell 1 _ rfl
    have y2 := (R2.out.below hb).cell 2 _ rfl
    have hB2 := Lib.hid (below_link hB.out hb hB.out.size)
    clear hb q0 q1 q2 R1 R2
    go_wp2_with fail
    go_ret
    exact ⟨rfl, hB2.out⟩
end Go.Proofs.YtpadpiibiocabaaDoor.taint
