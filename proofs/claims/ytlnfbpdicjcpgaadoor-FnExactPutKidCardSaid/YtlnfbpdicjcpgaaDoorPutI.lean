/- impl.PutKid. -/
import Derived.Test.YtlnfbpdicjcpgaaDoorWithI
import Derived.Test.YtlnfbpdicjcpgaaDoorWithL
import Derived.Test.YtlnfbpdicjcpgaaDoorKidOut
import Derived.Test.YtlnfbpdicjcpgaaDoorTrOkI
import Derived.Test.YtlnfbpdicjcpgaaDoorGCp
namespace Go.Proofs.YtlnfbpdicjcpgaaDoor.tree
open Go.ChangeShapes Go.WideShapes Go.ChangeAt Go.RowKit
open rune (Tabs)
set_option linter.unusedVariables false

theorem own_flat {w : World} {B f n c size : Nat} {A : Option Addr} {ds : List C} {F : List Nat} (h : Own w B f (.slice A n c) (.sl size n ds) F) : Flat w A c := by
  match f, h with
  | f + 1, h =>
    rcases h.2 with ⟨e, _⟩ | ⟨g, c', cur, e, Fs, e2, h1, h2, h3, h4, _⟩
    · injection e with e1 e2 e3
      exact .inl ⟨e1, e3⟩
    · injection e2 with e1 e2 e3
      exact .inr ⟨g, 0, e1, heap_lt h4⟩
/-- The tree that withKid hands back lies in memory. -/
theorem with_lies {f i a N dv cv : Nat} {n : Int} {fl : Bool} {s key : ByteArray} {ks : List ByteArray} {kids : List T} {kid : T} {xs us : List Value} {Av Bv : Option Addr} {w' : World} {B : Nat} (wn : (Lit.int .i64 n).wf = true) (hs : s.size ≤ maxLen) (hks : ∀ x ∈ ks, x.size ≤ maxLen) (hkey : key.size ≤ maxLen)
    (hx : LiesS w' f xs (rows kids)) (hu : LiesS w' f us (row kid)) (hl : ks.length = kids.length) (hi : i ≤ ks.length) (hN : N = i + (ks.length - a + 1))
    (h1 : w'.ownsRow B 9 1 (.slice Av N cv) N (scells (ks.take i) ++ scells [key] ++ scells (ks.drop a))) (h2 : w'.ownsRow B 29 6 (.slice Bv N dv) N (xs.take (i * 6) ++ us ++ xs.drop (a * 6))) :
    LiesS w' (f + 2) [.int .i64 6, .bool fl, .int .i64 n, .string s, .slice Av N cv, .slice Bv N dv] (row (.mk 6 fl n s (ks.take i ++ key :: ks.drop a) (kids.take i ++ kid :: kids.drop a))) := by
  have hk1 : (ks.take i ++ key :: ks.drop a).length = N := by rw [List.length_append, List.length_take, List.length_cons, List.length_drop]; omega
  have hk2 : (kids.take i ++ kid :: kids.drop a).length = N := by rw [List.length_append, List.length_take, List.length_cons, List.length_drop]; omega
  have e1 : scells (ks.take i) ++ scells [key] ++ scells (ks.drop a) = scells (ks.take i ++ key :: ks.drop a) := by simp [scells]
  rw [e1] at h1
  have hsz : ∀ x ∈ ks.take i ++ key :: ks.drop a, x.size ≤ maxLen := fun x hx => by
    rcases List.mem_append.1 hx with h | h
    · exact hks x (List.mem_of_mem_take h)
    · rcases List.mem_cons.1 h with rfl | h
      · exact hkey
      · exact hks x (List.mem_of_mem_drop h)
  have l4 : Lies w' (f + 2) (.slice Av N cv) (.sl 1 N (skeys (ks.take i ++ key :: ks.drop a))) := lies_of_own h1 (lies_strs _ hsz)
  have hrows : LiesS w' f (xs.take (i * 6) ++ us ++ xs.drop (a * 6)) (rows (kids.take i ++ kid :: kids.drop a)) := by
    have h := liesS_app (liesS_app (LiesS.take hx (i * 6)) hu) (LiesS.drop hx (a * 6))
    rw [rows_take, rows_drop] at h
    have e : rows (kids.take i ++ kid :: kids.drop a) = rows (kids.take i) ++ row kid ++ rows (kids.drop a) := by rw [rows_append, rows, List.append_assoc]
    rw [e]
    exact h
  have l5 : Lies w' (f + 2) (.slice Bv N dv) (.sl 6 N (rows (kids.take i ++ kid :: kids.drop a))) := lies_of_own h2 (hrows.deeper (Nat.le_succ _))
  rw [row, hk1, hk2]
  have l0 : Lies w' (f + 2) (.int .i64 6) (.int .i64 6) := ⟨rfl, wf_small (by decide) (by decide)⟩
  have l1 : Lies w' (f + 2) (.bool fl) (.bool fl) := rfl
  have l2 : Lies w' (f + 2) (.int .i64 n) (.int .i64 n) := ⟨rfl, wn⟩
  have l3 : Lies w' (f + 2) (.string s) (.str s) := ⟨rfl, hs⟩
  exact LiesS.cons l0 (LiesS.cons l1 (LiesS.cons l2 (LiesS.cons l3 (LiesS.cons l4 (LiesS.cons l5 LiesS.nil)))))
theorem weight_put {ks : List ByteArray} {kids : List T} {k : Int} {fl : Bool} {n : Int} {s key : ByteArray} {kid : T} {i a : Nat} (hi : i ≤ a) : weight (.mk k fl n s (ks.take i ++ key :: ks.drop a) (kids.take i ++ kid :: kids.drop a)) ≤ weight (.mk k fl n s ks kids) + (key.size + 1) + (weight kid + 1) := by
  have h1 : ∀ l : List ByteArray, weightK (l.take i) + weightK (l.drop a) ≤ weightK l := fun l => by
    have h : weightK l = weightK (l.take a) + weightK (l.drop a) := by rw [← weightK_append, List.take_append_drop]
    have h2 : weightK (l.take a) = weightK ((l.take a).take i) + weightK ((l.take a).drop i) := by rw [← weightK_append, List.take_append_drop]
    rw [List.take_take, Nat.min_eq_left hi] at h2
    omega
  have h3 : ∀ l : List T, weights (l.take i) + weights (l.drop a) ≤ weights l := fun l => by
    have h : weights l = weights (l.take a) + weights (l.drop a) := by rw [← weights_append, List.take_append_drop]
    have h2 : weights (l.take a) = weights ((l.take a).take i) + weights ((l.take a).drop i) := by rw [← weights_append, List.take_append_drop]
    rw [List.take_take, Nat.min_eq_left hi] at h2
    omega
  have h4 := h1 ks
  have h5 := h3 kids
  simp only [weight, weightK_append, weights_append, weightK, weights, List.length_append, List.length_take, List.length_drop, List.length_cons]
  omega
end Go.Proofs.YtlnfbpdicjcpgaaDoor.tree
