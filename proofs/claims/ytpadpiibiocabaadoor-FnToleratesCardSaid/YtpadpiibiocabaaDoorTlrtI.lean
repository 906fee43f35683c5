/- impl.Tolerates. -/
import Derived.Test.YtpadpiibiocabaaDoorApplyI
import Derived.Test.YtpadpiibiocabaaDoorGQ
namespace Go.Proofs.YtpadpiibiocabaaDoor.taint
open Go.ChangeShapes Go.WideShapes Go.ChangeAt Go.RowKit ty lab need
set_option linter.unusedVariables false

theorem tri_ways (a b : Bool) : a = false ∨ (a = true ∧ b = false) ∨ (a = true ∧ b = true) := by cases a <;> cases b <;> simp
set_option maxRecDepth 100000 in
set_option maxHeartbeats 16000000 in
theorem impl_tlr (t : Tolerance) (x : Taint) (w : World) (ht : t.Wf) (hx : x.Wf) :
    Calls Tryd.prog 18 #[.agg #[.string t.key, .bool t.equal, .string t.value, .int .i64 t.effect], .agg #[.string x.key, .string x.value, .int .i64 x.effect]] w fun e w' => e = .returned (.bool (tolF t x)) ∧ Below w.heap.size w w' := by
  rw [tolF_eq]
  have HT := Lib.hid (fun w' => impl_tol t w' ht)
  have HX := Lib.hid (fun w' => impl_taint x w' hx)
  have HO := Lib.hid (fun w' => impl_fo t w')
  have HF := Lib.hid (fun w' => impl_ft x w')
  have HA := Lib.hid (fun w' => impl_apply t.key t.value t.effect t.equal x.key x.value x.effect w')
  clear ht hx
  generalize ((yes (t.key.size = 0) || yes (t.key = x.key)) && ((!t.equal || yes (t.value = x.value)) && (yes (t.effect = 0) || yes (t.effect = x.effect)))) = b3 at HA ⊢
  generalize yes (TolP t) = b1 at HT ⊢
  generalize yes (TaintP x) = b2 at HX ⊢
  obtain ⟨k, q, a, n⟩ := t
  obtain ⟨xk, xa, xn⟩ := x
  simp only at *
  obtain ⟨X, hX⟩ : ∃ X, X = (w.alloc (.cells #[.string k, .bool q, .string a, .int .i64 n] 30)).alloc (.cells #[.string xk, .string xa, .int .i64 xn] 32) := ⟨_, rfl⟩
  have hb : Below w.heap.size w X := by rw [hX]; exact ((Below.refl w.heap.size w).alloc (Nat.le_refl _) _).alloc (by simp) _
  have hs : X.heap.size = w.heap.size + 2 := by rw [hX]; simp
  have h1 : RowE 30 X w.heap.size [.string k, .bool q, .string a, .int .i64 n] := by rw [hX]; exact (RowE.new _ _ _).alloc (e2 := 32) (vs := [.string xk, .string xa, .int .i64 xn])
  have h2 : RowE 32 X (w.heap.size + 1) [.string xk, .string xa, .int .i64 xn] := by
    have h := RowE.new 32 (w.alloc (.cells #[.string k, .bool q, .string a, .int .i64 n] 30)) [.string xk, .string xa, .int .i64 xn]
    rw [show (w.alloc (.cells #[.string k, .bool q, .string a, .int .i64 n] 30)).heap.size = w.heap.size + 1 by simp] at h
    rw [hX]; exact h
  have p0 : ∀ p : BelowBy X, p.v.cell? ⟨w.heap.size, 0, none⟩ = some (.string k) := fun p => (h1.below p.h).cell 0 _ rfl
  have p1 : ∀ p : BelowBy X, p.v.cell? ⟨w.heap.size, 1, none⟩ = some (.bool q) := fun p => (h1.below p.h).cell 1 _ rfl
  have p2 : ∀ p : BelowBy X, p.v.cell? ⟨w.heap.size, 2, none⟩ = some (.string a) := fun p => (h1.below p.h).cell 2 _ rfl
  have p3 : ∀ p : BelowBy X, p.v.cell? ⟨w.heap.size, 3, none⟩ = some (.int .i64 n) := fun p => (h1.below p.h).cell 3 _ rfl
  have q0 : ∀ p : BelowBy X, p.v.cell? ⟨w.heap.size + 1, 0, none⟩ = some (.string xk) := fun p => (h2.below p.h).cell 0 _ rfl
  have q1 : ∀ p : BelowBy X, p.v.cell? ⟨w.heap.size + 1, 1, none⟩ = some (.string xa) := fun p => (h2.below p.h).cell 1 _ rfl
  have q2 : ∀ p : BelowBy X, p.v.cell? ⟨w.heap.size + 1, 2, none⟩ = some (.int .i64 xn) := fun p => (h2.below p.h).cell 2 _ rfl
  have HXX := Lib.hid hX
  have Hb := Lib.hid hb
  clear hX hb hs h1 h2
  rcases tri_ways b1 b2 with rfl | ⟨rfl, rfl⟩ | ⟨rfl, rfl⟩ <;>
  · go_enter Tryd.func18, Tryd.ntmps18
    go_wp2_with fail
    rw [← HXX.out]
    refine wp_region_quiet_below (by kernel_rfl) (by kernel_rfl) ?_
    repeat (refine @wpQuiet_step _ _ _ _ _ _ _ ?_; intro K hK; go_simp; first | (refine hK _ ?_; clear hK K) | (apply Exists.intro; refine ⟨fun _ => ?_, hK _ ?_⟩; (first | (go_at_call 31; exact Calls.below_of (HT.out _)) | (go_at_call 22; exact Calls.below_of (HX.out _)) | (go_at_call 57; exact Calls.below_of (gr_below (HO.out _))) | (go_at_call 59; exact Calls.below_of (gr_below (HF.out _))) | (go_at_call 58; exact Calls.below_of (HA.out _))); clear hK K))
    refine wpQuiet_nil ?_
    intro _ hw'
    obtain ⟨p, rfl⟩ := hw'
    go_wp2_with fail
    go_ret
    exact ⟨by cases b3 <;> rfl, Hb.out.trans (p.h.mono Hb.out.size)⟩
end Go.Proofs.YtpadpiibiocabaaDoor.taint
