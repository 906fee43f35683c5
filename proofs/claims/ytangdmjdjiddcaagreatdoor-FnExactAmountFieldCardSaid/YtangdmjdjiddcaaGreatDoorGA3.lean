/- Merged: TreeM TreeL TrSz. -/
import Derived.Test.YtangdmjdjiddcaaGreatDoorRuneM
import Derived.Test.YtangdmjdjiddcaaGreatDoorCell
import Derived.Test.YtangdmjdjiddcaaGreatDoorRows
import Derived.ProofKit
import Derived.OpenShut
namespace Go.Proofs.YtangdmjdjiddcaaGreatDoor.tree
open Go Go.RowKit
set_option linter.unusedVariables false

inductive T where
  | mk (kind : Int) (flag : Bool) (num : Int) (text : ByteArray) (keys : List ByteArray) (kids : List T)
namespace T
def kind : T → Int | mk k _ _ _ _ _ => k
def flag : T → Bool | mk _ f _ _ _ _ => f
def num : T → Int | mk _ _ n _ _ _ => n
def text : T → ByteArray | mk _ _ _ s _ _ => s
def keys : T → List ByteArray | mk _ _ _ _ ks _ => ks
def kids : T → List T | mk _ _ _ _ _ kids => kids
end T
/-- What holds of a tree if it holds of its kids holds of all. -/
theorem T.ind {P : T → Prop} (h : ∀ k f n s ks kids, (∀ x ∈ kids, P x) → P (T.mk k f n s ks kids)) : ∀ t, P t :=
  fun t => T.rec (motive_1 := P) (motive_2 := fun l => ∀ x ∈ l, P x) (fun k f n s ks kids ih => h k f n s ks kids ih) (fun x hx => by cases hx)
    (fun a r ha hr x hx => by
      rcases List.mem_cons.1 hx with rfl | hx
      · exact ha
      · exact hr x hx) t

/-! What a tree's cells read as. -/
def skeys (ks : List ByteArray) : List C := ks.map C.str
mutual
def row : T → List C
  | .mk k f n s ks kids => [.int .i64 k, .bool f, .int .i64 n, .str s, .sl 1 ks.length (skeys ks), .sl 6 kids.length (rows kids)]
def rows : List T → List C
  | [] => []
  | t :: r => row t ++ rows r
end
theorem row_length (t : T) : (row t).length = 6 := by cases t; rfl
theorem rows_length : ∀ l : List T, (rows l).length = l.length * 6
  | [] => rfl
  | t :: r => by rw [rows, List.length_append, row_length, rows_length r, List.length_cons]; omega
theorem rows_append : ∀ a b : List T, rows (a ++ b) = rows a ++ rows b
  | [], b => rfl
  | t :: r, b => by rw [List.cons_append, rows, rows, rows_append r b, List.append_assoc]
theorem skeys_length (ks : List ByteArray) : (skeys ks).length = ks.length := by simp [skeys]
/-- Field j of kid i. -/
theorem rows_get : ∀ (l : List T) (i j : Nat) (hi : i < l.length), j < 6 → (rows l)[i * 6 + j]? = (row l[i])[j]?
  | [], i, j, hi, _ => by simp at hi
  | t :: r, 0, j, _, hj => by
    rw [rows, List.getElem?_append_left (by rw [row_length]; omega)]
    simp
  | t :: r, i + 1, j, hi, hj => by
    rw [rows, List.getElem?_append_right (by rw [row_length]; omega), row_length, show (i + 1) * 6 + j - 6 = i * 6 + j by omega]
    exact rows_get r i j (by simpa using hi) hj

/-! Its measures. -/
mutual
def size : T → Nat
  | .mk _ _ _ _ _ kids => 1 + sizes kids
def sizes : List T → Nat
  | [] => 0
  | t :: r => size t + sizes r
end
mutual
def depth : T → Nat
  | .mk _ _ _ _ _ kids => depths kids + 1
def depths : List T → Nat
  | [] => 0
  | t :: r => max (depth t) (depths r)
end
mutual
def leaves : T → Nat
  | .mk k _ _ _ _ kids => if kids.length = 0 then (if k = 5 ∨ k = 6 then 0 else 1) else leavess kids
def leavess : List T → Nat
  | [] => 0
  | t :: r => leaves t + leavess r
end
/-- What the law counts: bytes of texts and keys, and elements of lists. -/
def weightK : List ByteArray → Nat
  | [] => 0
  | s :: r => s.size + weightK r
mutual
def weight : T → Nat
  | .mk _ _ _ s ks kids => s.size + (ks.length + weightK ks) + (kids.length + weights kids)
def weights : List T → Nat
  | [] => 0
  | t :: r => weight t + weights r
end
theorem sizes_append : ∀ a b : List T, sizes (a ++ b) = sizes a + sizes b
  | [], b => by simp [sizes]
  | t :: r, b => by rw [List.cons_append, sizes, sizes, sizes_append r b]; omega
theorem depths_append : ∀ a b : List T, depths (a ++ b) = max (depths a) (depths b)
  | [], b => by simp [depths]
  | t :: r, b => by rw [List.cons_append, depths, depths, depths_append r b]; omega
theorem leavess_append : ∀ a b : List T, leavess (a ++ b) = leavess a + leavess b
  | [], b => by simp [leavess]
  | t :: r, b => by rw [List.cons_append, leavess, leavess, leavess_append r b]; omega
theorem weights_append : ∀ a b : List T, weights (a ++ b) = weights a + weights b
  | [], b => by simp [weights]
  | t :: r, b => by rw [List.cons_append, weights, weights, weights_append r b]; omega
theorem weightK_append : ∀ a b : List ByteArray, weightK (a ++ b) = weightK a + weightK b
  | [], b => by simp [weightK]
  | t :: r, b => by rw [List.cons_append, weightK, weightK, weightK_append r b]; omega
theorem sizes_le_mem {l : List T} {x : T} (h : x ∈ l) : size x ≤ sizes l := by
  induction l with
  | nil => cases h
  | cons a r ih =>
    rw [sizes]
    rcases List.mem_cons.1 h with rfl | h
    · omega
    · have := ih h; omega
/-- The size is no more than one above the weight; so are depth and leaves. -/
theorem size_le_weight : ∀ t, size t ≤ 1 + weight t := by
  refine T.ind fun k f n s ks kids ih => ?_
  rw [size, weight]
  have : sizes kids ≤ kids.length + weights kids := by
    clear f n s ks k
    induction kids with
    | nil => simp [sizes]
    | cons a r ih2 =>
      rw [sizes, weights, List.length_cons]
      have h1 := ih a List.mem_cons_self
      have h2 := ih2 (fun x hx => ih x (List.mem_cons_of_mem _ hx))
      omega
  omega
theorem depth_le_size : ∀ t, depth t ≤ size t := by
  refine T.ind fun k f n s ks kids ih => ?_
  rw [size, depth]
  have : depths kids ≤ sizes kids := by
    clear f n s ks k
    induction kids with
    | nil => simp [depths]
    | cons a r ih2 =>
      rw [sizes, depths]
      have h1 := ih a List.mem_cons_self
      have h2 := ih2 (fun x hx => ih x (List.mem_cons_of_mem _ hx))
      omega
  omega
theorem leaves_le_size : ∀ t, leaves t ≤ size t := by
  refine T.ind fun k f n s ks kids ih => ?_
  rw [size, leaves]
  have : leavess kids ≤ sizes kids := by
    clear f n s ks k
    induction kids with
    | nil => simp [leavess]
    | cons a r ih2 =>
      rw [sizes, leavess]
      have h1 := ih a List.mem_cons_self
      have h2 := ih2 (fun x hx => ih x (List.mem_cons_of_mem _ hx))
      omega
  split
  · split <;> omega
  · omega

theorem leavess_le_sizes : ∀ l : List T, leavess l ≤ sizes l
  | [] => by simp [leavess]
  | t :: r => by rw [leavess, sizes]; have := leaves_le_size t; have := leavess_le_sizes r; omega

/-! Right trees. -/
def less (a b : ByteArray) : Bool := Op.bytesLess a.toList b.toList
def TextOk (s : ByteArray) : Prop := s.size ≤ 400 ∧ (rune.runesF s).isSome = true
def KeyOk (ks : List ByteArray) (i : Nat) : Prop := TextOk (ks.getD i ⟨#[]⟩) ∧ (0 < i → less (ks.getD (i - 1) ⟨#[]⟩) (ks.getD i ⟨#[]⟩) = true)
def KeysOk (ks : List ByteArray) : Prop := ∀ i, i < ks.length → KeyOk ks i
/-- The fields that a kind uses. -/
def Fit (k : Int) (f : Bool) (n : Int) (s : ByteArray) (nks nkids : Nat) : Prop :=
  1 ≤ k ∧ k ≤ 6 ∧ (f = true → k = 2) ∧ (n ≠ 0 → k = 3) ∧ (0 < s.size → k = 4) ∧ (0 < nks → k = 6) ∧ (0 < nkids → 5 ≤ k) ∧ (k = 6 → nks = nkids)
mutual
def Shape : T → Prop
  | .mk k f n s ks kids => Fit k f n s ks.length kids.length ∧ TextOk s ∧ KeysOk ks ∧ Shapes kids
def Shapes : List T → Prop
  | [] => True
  | t :: r => Shape t ∧ Shapes r
end
theorem shapes_iff : ∀ l : List T, Shapes l ↔ ∀ x ∈ l, Shape x
  | [] => by simp [Shapes]
  | t :: r => by rw [Shapes, shapes_iff r]; simp
def Ok (t : T) : Prop := depth t ≤ 8 ∧ size t ≤ 300 ∧ Shape t

/-! A key's place. -/
def keyFrom (key : ByteArray) : List ByteArray → Nat → Int
  | [], _ => -1
  | k :: r, i => if k = key then (i : Int) else keyFrom key r (i + 1)
def keyAt (t : T) (key : ByteArray) : Int := if t.kind = 6 then keyFrom key t.keys 0 else -1
theorem keyFrom_cases (key : ByteArray) : ∀ (ks : List ByteArray) (i : Nat), (keyFrom key ks i = -1 ∧ key ∉ ks) ∨ ∃ j : Nat, keyFrom key ks i = ((i + j : Nat) : Int) ∧ ks[j]? = some key ∧ ∀ m, m < j → ks[m]? ≠ some key
  | [], i => .inl ⟨rfl, by simp⟩
  | k :: r, i => by
    by_cases h : k = key
    · exact .inr ⟨0, by simp [keyFrom, h], by simp [h], fun m hm => by omega⟩
    · rcases keyFrom_cases key r (i + 1) with ⟨h1, h2⟩ | ⟨j, h1, h2, h3⟩
      · exact .inl ⟨by simp [keyFrom, h, h1], by simp [h2]; exact fun e => h e.symm⟩
      · refine .inr ⟨j + 1, by rw [keyFrom, if_neg h, h1]; congr 1; omega, by simpa using h2, fun m hm => ?_⟩
        cases m with
        | zero => simpa using h
        | succ m => simpa using h3 m (by omega)
theorem keyFrom_at {key : ByteArray} {ks : List ByteArray} {j : Nat} (h1 : ks[j]? = some key) (h2 : ∀ m, m < j → ks[m]? ≠ some key) : keyFrom key ks 0 = (j : Int) := by
  rcases keyFrom_cases key ks 0 with ⟨_, h⟩ | ⟨i, hi, h3, h4⟩
  · exact absurd (List.mem_of_getElem? h1) h
  · rw [hi]
    have : i = j := by
      rcases Nat.lt_trichotomy i j with h | h | h
      · exact absurd h3 (h2 i h)
      · exact h
      · exact absurd h1 (h4 j h)
    omega
theorem keyFrom_none {key : ByteArray} {ks : List ByteArray} (h : ∀ m, m < ks.length → ks[m]? ≠ some key) : keyFrom key ks 0 = -1 := by
  rcases keyFrom_cases key ks 0 with ⟨h, _⟩ | ⟨i, hi, h3, h4⟩
  · exact h
  · exact absurd h3 (h i (List.getElem?_eq_some_iff.1 h3).1)
def zero : T := .mk 0 false 0 ⟨#[]⟩ [] []
def kidOf (t : T) (key : ByteArray) : T × Bool := if 0 ≤ keyAt t key ∧ t.keys.length = t.kids.length then (t.kids.getD (keyAt t key).toNat zero, true) else (zero, false)

theorem weights_le_mem {l : List T} {x : T} (h : x ∈ l) : weight x ≤ weights l := by
  induction l with
  | nil => cases h
  | cons a r ih =>
    rw [weights]
    rcases List.mem_cons.1 h with rfl | h
    · omega
    · have := ih h; omega
theorem kidOf_weight (t : T) (key : ByteArray) : weight (kidOf t key).1 ≤ weight t := by
  unfold kidOf
  split
  · obtain ⟨k, f, n, s, ks, kids⟩ := t
    rw [List.getD_eq_getElem?_getD]
    cases h : (T.mk k f n s ks kids).kids[(keyAt (T.mk k f n s ks kids) key).toNat]? with
    | none => simp [zero, weight, weights, weightK]; exact Nat.zero_le _
    | some x =>
      have hx : x ∈ kids := List.mem_of_getElem? h
      have := weights_le_mem hx
      show weight x ≤ _
      rw [weight]
      omega
  · have e : weight zero = 0 := by simp [zero, weight, weights, weightK]; rfl
    show weight zero ≤ _
    omega

/-! A kid put at its key. -/
/-- The keys and kids with (key, kid) put in (laid: it is). -/
def put (key : ByteArray) (kid : T) : Bool → List (ByteArray × T) → List (ByteArray × T)
  | laid, [] => if laid then [] else [(key, kid)]
  | laid, (k, x) :: r =>
    (if !laid && !less k key then [(key, kid)] else []) ++ ((if k = key then [] else [(k, x)]) ++ put key kid (laid || !less k key) r)
def putT (t : T) (key : ByteArray) (kid : T) : T := .mk 6 false 0 ⟨#[]⟩ ((put key kid false (t.keys.zip t.kids)).map (·.1)) ((put key kid false (t.keys.zip t.kids)).map (·.2))
open Classical in
noncomputable def putKid (t : T) (key : ByteArray) (kid : T) : T × Bool := if t.kind = 6 ∧ Ok t ∧ Ok (putT t key kid) then (putT t key kid, true) else (t, false)
def textT (s : ByteArray) : T := .mk 4 false 0 s [] []
def intT (n : Int) : T := .mk 3 false n ⟨#[]⟩ [] []
def listT (kids : List T) : T := .mk 5 false 0 ⟨#[]⟩ [] kids
end Go.Proofs.YtangdmjdjiddcaaGreatDoor.tree
namespace Go.Proofs.YtangdmjdjiddcaaGreatDoor.tree
open Go Go.RowKit
set_option linter.unusedVariables false

theorem Rd.of_lies {w : World} {f : Nat} {v : Value} {ks : List ByteArray} (h : Lies w f v (.sl 1 ks.length (skeys ks))) : ∃ A c, v = .slice A ks.length c ∧ ks.length ≤ c ∧ c ≤ maxLen ∧ Rd w A ks.length (scells ks) ∧ ∀ x ∈ ks, x.size ≤ maxLen := by
  obtain ⟨A, c, rfl, h1, h2, _, f', rfl, h3⟩ := h.sl
  refine ⟨A, c, rfl, h1, h2, ⟨by rw [scells_length], fun hn => ?_⟩, fun x hx => ?_⟩
  · obtain ⟨g, o, rfl, hg, hc⟩ := h3 hn
    refine ⟨g, o, rfl, hg, fun j hj u hu => ?_⟩
    rw [scells_get ks j hj] at hu
    injection hu with hu
    obtain ⟨u', hu', hl⟩ := hc j (.str ks[j]) (by simp [skeys, hj])
    rw [hl.str.1] at hu'
    rw [hu', ← hu]
  · obtain ⟨i, hi, rfl⟩ := List.getElem_of_mem hx
    obtain ⟨g, o, rfl, hg, hc⟩ := h3 (by omega)
    obtain ⟨u', hu', hl⟩ := hc i (.str ks[i]) (by simp [skeys, hi])
    exact hl.str.2
/-- The six cells from place o on. -/
def Six (w : World) (g o : Nat) (u0 u1 u2 u3 u4 u5 : Value) : Prop :=
  w.cell? ⟨g, o, none⟩ = some u0 ∧ w.cell? ⟨g, o + 1, none⟩ = some u1 ∧ w.cell? ⟨g, o + 2, none⟩ = some u2 ∧ w.cell? ⟨g, o + 3, none⟩ = some u3 ∧ w.cell? ⟨g, o + 4, none⟩ = some u4 ∧ w.cell? ⟨g, o + 5, none⟩ = some u5
theorem Six.block {w w' : World} {g o : Nat} {u0 u1 u2 u3 u4 u5 : Value} (h : Six w g o u0 u1 u2 u3 u4 u5) (e : w'.heap[g]? = w.heap[g]?) : Six w' g o u0 u1 u2 u3 u4 u5 :=
  ⟨(World.cell?_of_block e).trans h.1, (World.cell?_of_block e).trans h.2.1, (World.cell?_of_block e).trans h.2.2.1, (World.cell?_of_block e).trans h.2.2.2.1, (World.cell?_of_block e).trans h.2.2.2.2.1, (World.cell?_of_block e).trans h.2.2.2.2.2⟩
/-- The kids in memory, each as its six cells. -/
def KidsAt (w : World) (f : Nat) (A : Option Addr) (kids : List T) : Prop :=
  0 < kids.length → ∃ g o, A = some ⟨g, o, none⟩ ∧ g < w.heap.size ∧ ∀ (i : Nat) (x : T), kids[i]? = some x → ∃ u0 u1 u2 u3 u4 u5, Six w g (o + i * 6) u0 u1 u2 u3 u4 u5 ∧ LiesS w f [u0, u1, u2, u3, u4, u5] (row x)
theorem KidsAt.kept {w w' : World} {f : Nat} {A : Option Addr} {kids : List T} (h : KidsAt w f A kids) (hk : ∀ g, g < w.heap.size → w'.heap[g]? = w.heap[g]?) : KidsAt w' f A kids := by
  intro hn
  obtain ⟨g, o, rfl, hg, hc⟩ := h hn
  have e := hk g hg
  have hs : g < w'.heap.size := by
    rw [Array.getElem?_eq_getElem hg] at e
    exact heap_lt e
  refine ⟨g, o, rfl, hs, fun i x hx => ?_⟩
  obtain ⟨u0, u1, u2, u3, u4, u5, h1, h2⟩ := hc i x hx
  exact ⟨u0, u1, u2, u3, u4, u5, h1.block e, h2.kept hk⟩
theorem KidsAt.below {w w' : World} {f : Nat} {A : Option Addr} {kids : List T} (h : KidsAt w f A kids) (hb : Below w.heap.size w w') : KidsAt w' f A kids := h.kept hb.block
theorem kids_of_lies {w : World} {f : Nat} {v : Value} {kids : List T} (h : Lies w f v (.sl 6 kids.length (rows kids))) : ∃ A c, v = .slice A kids.length c ∧ kids.length ≤ c ∧ c ≤ maxLen ∧ ∃ f', f = f' + 1 ∧ KidsAt w f' A kids := by
  obtain ⟨A, c, rfl, h1, h2, _, f', rfl, h3⟩ := h.sl
  refine ⟨A, c, rfl, h1, h2, f', rfl, fun hn => ?_⟩
  obtain ⟨g, o, rfl, hg, hc⟩ := h3 hn
  refine ⟨g, o, rfl, hg, fun i x hx => ?_⟩
  obtain ⟨hi, rfl⟩ := List.getElem?_eq_some_iff.1 hx
  have hj : ∀ j : Fin 6, ∃ u, w.cell? ⟨g, o + (i * 6 + j.val), none⟩ = some u ∧ ∃ d, (row kids[i])[j.val]? = some d ∧ Lies w f' u d := fun j => by
    have hd : j.val < (row kids[i]).length := by rw [row_length]; omega
    obtain ⟨u, hu, hl⟩ := hc (i * 6 + j.val) (row kids[i])[j.val] (by rw [rows_get kids i j.val hi j.isLt]; exact List.getElem?_eq_getElem hd)
    exact ⟨u, hu, _, List.getElem?_eq_getElem hd, hl⟩
  obtain ⟨u0, c0, d0, e0, l0⟩ := hj 0
  obtain ⟨u1, c1, d1, e1, l1⟩ := hj 1
  obtain ⟨u2, c2, d2, e2, l2⟩ := hj 2
  obtain ⟨u3, c3, d3, e3, l3⟩ := hj 3
  obtain ⟨u4, c4, d4, e4, l4⟩ := hj 4
  obtain ⟨u5, c5, d5, e5, l5⟩ := hj 5
  refine ⟨u0, u1, u2, u3, u4, u5, ⟨c0, c1, c2, c3, c4, c5⟩, by rw [row_length]; rfl, fun m u d hu hd => ?_⟩
  · match m, hu, hd with
    | 0, hu, hd => injection hu with hu; subst hu; rw [show (row kids[i])[0]? = some d0 from e0] at hd; injection hd with hd; subst hd; exact l0
    | 1, hu, hd => injection hu with hu; subst hu; rw [show (row kids[i])[1]? = some d1 from e1] at hd; injection hd with hd; subst hd; exact l1
    | 2, hu, hd => injection hu with hu; subst hu; rw [show (row kids[i])[2]? = some d2 from e2] at hd; injection hd with hd; subst hd; exact l2
    | 3, hu, hd => injection hu with hu; subst hu; rw [show (row kids[i])[3]? = some d3 from e3] at hd; injection hd with hd; subst hd; exact l3
    | 4, hu, hd => injection hu with hu; subst hu; rw [show (row kids[i])[4]? = some d4 from e4] at hd; injection hd with hd; subst hd; exact l4
    | 5, hu, hd => injection hu with hu; subst hu; rw [show (row kids[i])[5]? = some d5 from e5] at hd; injection hd with hd; subst hd; exact l5
    | m + 6, hu, hd => simp at hu
/-- A tree's six cells. -/
theorem open_tree {w : World} {f : Nat} {vs : List Value} {k : Int} {fl : Bool} {n : Int} {s : ByteArray} {ks : List ByteArray} {kids : List T} (h : LiesS w f vs (row (.mk k fl n s ks kids))) :
    ∃ A1 c1 A2 c2, vs = [.int .i64 k, .bool fl, .int .i64 n, .string s, .slice A1 ks.length c1, .slice A2 kids.length c2] ∧ (Lit.int .i64 k).wf = true ∧ (Lit.int .i64 n).wf = true ∧ s.size ≤ maxLen ∧
      ks.length ≤ c1 ∧ c1 ≤ maxLen ∧ Rd w A1 ks.length (scells ks) ∧ (∀ x ∈ ks, x.size ≤ maxLen) ∧ kids.length ≤ c2 ∧ c2 ≤ maxLen ∧ ∃ f', f = f' + 1 ∧ KidsAt w f' A2 kids := by
  rw [row] at h
  obtain ⟨v0, _, rfl, l0, h⟩ := h.uncons
  obtain ⟨v1, _, rfl, l1, h⟩ := h.uncons
  obtain ⟨v2, _, rfl, l2, h⟩ := h.uncons
  obtain ⟨v3, _, rfl, l3, h⟩ := h.uncons
  obtain ⟨v4, _, rfl, l4, h⟩ := h.uncons
  obtain ⟨v5, _, rfl, l5, h⟩ := h.uncons
  obtain rfl := h.unnil
  obtain ⟨rfl, w0⟩ := l0.int
  obtain rfl := l1.bool
  obtain ⟨rfl, w2⟩ := l2.int
  obtain ⟨rfl, w3⟩ := l3.str
  obtain ⟨A1, c1, rfl, h1, h2, h3, h4⟩ := Rd.of_lies l4
  obtain ⟨A2, c2, rfl, h5, h6, h7⟩ := kids_of_lies l5
  exact ⟨A1, c1, A2, c2, rfl, w0, w2, w3, h1, h2, h3, h4, h5, h6, h7⟩
/-- A tree's six cells, owned. -/
theorem own_tree {w : World} {B f : Nat} {k : Int} {fl : Bool} {n : Int} {s : ByteArray} {ks : List ByteArray} {kids : List T} {v1 v2 : Value} {F1 F2 : List Nat} (hk : (Lit.int .i64 k).wf = true) (hn : (Lit.int .i64 n).wf = true) (hs : s.size ≤ maxLen)
    (h1 : Own w B (f + 1) v1 (.sl 1 ks.length (skeys ks)) F1) (h2 : Own w B (f + 1) v2 (.sl 6 kids.length (rows kids)) F2) (n1 : F1.Nodup) (n2 : F2.Nodup) (hd : ∀ x ∈ F1, x ∉ F2) :
    ∃ F, OwnS w B (f + 1) [.int .i64 k, .bool fl, .int .i64 n, .string s, v1, v2] (row (.mk k fl n s ks kids)) F ∧ F.Nodup ∧ (∀ x ∈ F, x ∈ F1 ∨ x ∈ F2) := by
  refine ⟨_, OwnS.cons (own_int hk) (OwnS.cons own_bool (OwnS.cons (own_int hn) (OwnS.cons (own_str hs) (OwnS.cons h1 (OwnS.cons h2 OwnS.nil))))), ?_, ?_⟩
  · simp only [List.nil_append, List.append_nil]
    exact List.nodup_append.2 ⟨n1, n2, fun a ha b hb e => hd a ha (by rw [e]; exact hb)⟩
  · simp only [List.nil_append, List.append_nil]
    intro x hx
    exact List.mem_append.1 hx
/-- And opened. -/
theorem owned_tree {w : World} {B f : Nat} {k : Int} {fl : Bool} {n : Int} {s : ByteArray} {ks : List ByteArray} {kids : List T} {vs : List Value} {F : List Nat} (h : OwnS w B f vs (row (.mk k fl n s ks kids)) F) (hnd : F.Nodup) :
    ∃ v1 v2 F1 F2, vs = [.int .i64 k, .bool fl, .int .i64 n, .string s, v1, v2] ∧ (Lit.int .i64 k).wf = true ∧ (Lit.int .i64 n).wf = true ∧ s.size ≤ maxLen ∧ Own w B f v1 (.sl 1 ks.length (skeys ks)) F1 ∧ Own w B f v2 (.sl 6 kids.length (rows kids)) F2 ∧
      F = F1 ++ F2 ∧ F1.Nodup ∧ F2.Nodup ∧ ∀ x ∈ F1, x ∉ F2 := by
  rw [row] at h
  obtain ⟨v0, _, G0, _, rfl, rfl, l0, h⟩ := h.uncons
  obtain ⟨v1, _, G1, _, rfl, rfl, l1, h⟩ := h.uncons
  obtain ⟨v2, _, G2, _, rfl, rfl, l2, h⟩ := h.uncons
  obtain ⟨v3, _, G3, _, rfl, rfl, l3, h⟩ := h.uncons
  obtain ⟨v4, _, G4, _, rfl, rfl, l4, h⟩ := h.uncons
  obtain ⟨v5, _, G5, _, rfl, rfl, l5, h⟩ := h.uncons
  obtain ⟨rfl, rfl⟩ := h.unnil
  obtain rfl := l0.flat trivial
  obtain rfl := l1.flat trivial
  obtain rfl := l2.flat trivial
  obtain rfl := l3.flat trivial
  obtain ⟨rfl, w0⟩ := l0.lies.int
  obtain rfl := l1.lies.bool
  obtain ⟨rfl, w2⟩ := l2.lies.int
  obtain ⟨rfl, w3⟩ := l3.lies.str
  simp only [List.nil_append, List.append_nil] at hnd ⊢
  obtain ⟨n1, n2, n3⟩ := List.nodup_append.1 hnd
  exact ⟨v4, v5, G4, G5, rfl, w0, w2, w3, l4, l5, rfl, n1, n2, fun x hx hy => n3 x hx x hy rfl⟩
end Go.Proofs.YtangdmjdjiddcaaGreatDoor.tree
namespace Go.Proofs.YtangdmjdjiddcaaGreatDoor.tree
open Go.ChangeShapes Go.WideShapes Go.ChangeAt Go.RowKit
set_option linter.unusedVariables false

/-- What is left of so many behind x: -1 if they do not do. -/
def cutW (left : Int) (x : Nat) : Int := if left < x then -1 else left - x
theorem cut_no {left : Int} {x : Nat} (h : left < x) : cutW left x = -1 := by unfold cutW; rw [if_pos h]
theorem cut_yes {left : Int} {x : Nat} (h : ¬ left < x) : cutW left x = left - x := by unfold cutW; rw [if_neg h]
/-- The bounds of left. -/
def Left (l : Int) : Prop := 0 ≤ l ∧ l ≤ 1048576

theorem sz_keys (A : Option Addr) (c : Nat) (ks : List ByteArray) (left : Int) (w : World) (hc : ks.length ≤ c) (hm : c ≤ maxLen) (hr : Rd w A ks.length (scells ks)) (hks : ∀ x ∈ ks, x.size ≤ maxLen) (hl : Left left) :
    Calls Tryz.prog 35 #[.slice A ks.length c, .int .i64 left] w fun e w' => e = .returned (.int .i64 (cutW left (ks.length + weightK ks))) ∧ w' = w := by
  unfold maxLen at hm
  unfold Left at hl
  have Hr := Lib.hid hr
  have Hks := Lib.hid hks
  clear hr hks
  by_cases h0 : left < ks.length
  · have He := Lib.hid (cut_no (show left < ((ks.length + weightK ks : Nat) : Int) by omega))
    go_enter Tryz.func35, Tryz.ntmps35
    go_wp2_with fail
    go_ret
    exact ⟨by rw [He.out]; rfl, rfl⟩
  · go_enter Tryz.func35, Tryz.ntmps35
    go_wp2_with fail
    go_loop [1, 5] (fun a i => ∃ (j : Nat) (l : Int), j ≤ ks.length ∧ i = .int .i64 j ∧ a = .int .i64 l ∧ 0 ≤ l ∧ l ≤ 1048576 ∧ Hid (l = left - ks.length - weightK (ks.take j))) (fun _ i => ks.length - (intOf i).toNat)
    case atStart => exact ⟨0, left - ks.length, Nat.zero_le _, rfl, rfl, by omega, by omega, by unfold Hid; simp [weightK]⟩
    case round =>
      obtain ⟨j, l, hj, rfl, rfl, hl0, hl1, hin⟩ := hrel
      by_cases hlt : j < ks.length
      · obtain ⟨g, o, rfl, hg, hc0⟩ := Hr.out.2 (by omega)
        have hcell := hc0 j hlt _ (scells_get ks j hlt)
        have hsz := Hks.out ks[j] (List.getElem_mem hlt)
        unfold maxLen at hsz
        have hnext : weightK (ks.take (j + 1)) = weightK (ks.take j) + ks[j].size := by
          rw [List.take_succ_eq_append_getElem hlt, weightK_append]
          simp [weightK]
        have hall : weightK ks = weightK (ks.take (j + 1)) + weightK (ks.drop (j + 1)) := by rw [← weightK_append, List.take_append_drop]
        clear hc0 hg
        by_cases h1 : l < ks[j].size
        · have He := Lib.hid (cut_no (show left < ((ks.length + weightK ks : Nat) : Int) by have := hin.out; omega))
          clear hnext hall hin
          generalize ks[j] = x at hcell hsz h1
          go_wp2_with fail
          go_ret
          exact ⟨by rw [He.out]; rfl, rfl⟩
        · have Hin := Lib.hid (show l - ks[j].size = left - ks.length - weightK (ks.take (j + 1)) by have := hin.out; omega)
          clear hnext hall hin
          generalize ks[j] = x at hcell hsz h1 Hin
          go_wp2_with fail
          go_round
          case rel => exact ⟨j + 1, l - x.size, by omega, by go_num, rfl, by omega, by omega, Hin.out⟩
          case measure => simp [intOf]; omega
      · obtain rfl : j = ks.length := by omega
        rw [List.take_of_length_le (Nat.le_refl _)] at hin
        have He := Lib.hid (cut_yes (show ¬ left < ((ks.length + weightK ks : Nat) : Int) by have := hin.out; omega))
        have Hin := Lib.hid (show left - ((ks.length + weightK ks : Nat) : Int) = l by have := hin.out; omega)
        clear hin
        go_wp2_with fail
        go_ret
        exact ⟨by rw [He.out, Hin.out]; rfl, rfl⟩

/-- At a depth. -/
def SzKids (f : Nat) : Prop := ∀ (A : Option Addr) (c : Nat) (kids : List T) (left : Int) (w : World), kids.length ≤ c → c ≤ maxLen → KidsAt w f A kids → Left left →
  Calls Tryz.prog 36 #[.slice A kids.length c, .int .i64 left] w fun e w' => e = .returned (.int .i64 (cutW left (kids.length + weights kids))) ∧ Below w.heap.size w w'
theorem sz_of {f : Nat} (hP : SzKids f) (t : T) (vs : List Value) (left : Int) (w : World) (h : LiesS w (f + 1) vs (row t)) (hl : Left left) :
    Calls Tryz.prog 16 #[.agg vs.toArray, .int .i64 left] w fun e w' => e = .returned (.int .i64 (cutW left (weight t))) ∧ Below w.heap.size w w' := by
  obtain ⟨k, fl, n, s, ks, kids⟩ := t
  obtain ⟨A1, c1, A2, c2, rfl, _, _, hs, hc1, hc2, hr, hks, hc3, hc4, f', hf, hk⟩ := open_tree h
  obtain rfl : f = f' := by omega
  clear h hf
  unfold Left at hl
  unfold maxLen at hs
  rw [weight]
  have HB := Lib.hid (Box.new 43 w [.int .i64 k, .bool fl, .int .i64 n, .string s, .slice A1 ks.length c1, .slice A2 kids.length c2])
  have HK := Lib.hid (fun w1 left (hb : Below w.heap.size w w1) hl => sz_keys A1 c1 ks left w1 hc1 hc2 (hr.below hb) hks hl)
  have HP := Lib.hid (fun w1 left (hb : Below w.heap.size w w1) hl => hP A2 c2 kids left w1 hc3 hc4 (hk.below hb) hl)
  clear hr hk hks hc1 hc2 hc3 hc4 hP
  have hc3' := HB.out.cell (j := 3) rfl
  have hc4' := HB.out.cell (j := 4) rfl
  have hc5' := HB.out.cell (j := 5) rfl
  generalize hX : ks.length + weightK ks = X at HK
  generalize hY : kids.length + weights kids = Y at HP
  have hs0 : (0 : Int) ≤ s.size := by omega
  by_cases h0 : left < s.size
  · have He := Lib.hid (cut_no (show left < ((s.size + X + Y : Nat) : Int) by omega))
    clear hX hY
    go_enter Tryz.func16, Tryz.ntmps16
    go_wp2_with fail
    go_ret
    exact ⟨by rw [He.out]; rfl, HB.out.1⟩
  have HK1 := Lib.hid (HK.out _ (left - s.size) HB.out.1 ⟨by omega, by omega⟩)
  by_cases h1 : left - s.size < X
  · have He := Lib.hid (cut_no (show left < ((s.size + X + Y : Nat) : Int) by omega))
    rw [cut_no h1] at HK1
    clear hX hY
    go_enter Tryz.func16, Tryz.ntmps16
    go_wp2_with fail
    refine HK1.out.mono ?_
    rintro e w1 ⟨rfl, rfl⟩
    go_wp2_with fail
    go_ret
    exact ⟨by rw [He.out]; rfl, HB.out.1⟩
  rw [cut_yes h1] at HK1
  have HP1 := Lib.hid (HP.out _ (left - s.size - X) HB.out.1 ⟨by omega, by omega⟩)
  by_cases h2 : left - s.size - X < Y
  · have He := Lib.hid (cut_no (show left < ((s.size + X + Y : Nat) : Int) by omega))
    rw [cut_no h2] at HP1
    clear hX hY
    go_enter Tryz.func16, Tryz.ntmps16
    go_wp2_with fail
    refine HK1.out.mono ?_
    rintro e w1 ⟨rfl, rfl⟩
    go_wp2_with fail
    refine HP1.out.mono ?_
    rintro e w1 ⟨rfl, hb1⟩
    have HB1 := Lib.hid (HB.out.below hb1)
    go_wp2_with fail
    go_ret
    exact ⟨by rw [He.out]; rfl, HB1.out.1⟩
  · have He := Lib.hid (cut_yes (show ¬ left < ((s.size + X + Y : Nat) : Int) by omega))
    have He2 := Lib.hid (show left - ((s.size + X + Y : Nat) : Int) = left - s.size - X - Y by omega)
    rw [cut_yes h2] at HP1
    clear hX hY
    go_enter Tryz.func16, Tryz.ntmps16
    go_wp2_with fail
    refine HK1.out.mono ?_
    rintro e w1 ⟨rfl, rfl⟩
    go_wp2_with fail
    refine HP1.out.mono ?_
    rintro e w1 ⟨rfl, hb1⟩
    have HB1 := Lib.hid (HB.out.below hb1)
    go_wp2_with fail
    go_ret
    exact ⟨by rw [He.out, He2.out]; rfl, HB1.out.1⟩

theorem sz_kids_step {f : Nat} (hE : ∀ (t : T) (vs : List Value) (left : Int) (w : World), LiesS w f vs (row t) → Left left →
    Calls Tryz.prog 16 #[.agg vs.toArray, .int .i64 left] w fun e w' => e = .returned (.int .i64 (cutW left (weight t))) ∧ Below w.heap.size w w') : SzKids f := by
  intro A c kids left w hc hm hk hl
  unfold maxLen at hm
  unfold Left at hl
  have Hk := Lib.hid hk
  have HE := Lib.hid hE
  clear hk hE
  by_cases h0 : left < kids.length
  · have He := Lib.hid (cut_no (show left < ((kids.length + weights kids : Nat) : Int) by omega))
    go_enter Tryz.func36, Tryz.ntmps36
    go_wp2_with fail
    go_ret
    exact ⟨by rw [He.out]; rfl, Below.refl _ _⟩
  · go_enter Tryz.func36, Tryz.ntmps36
    go_wp2_with fail
    go_loopw [1, 5] (fun a i wr => ∃ (j : Nat) (l : Int), j ≤ kids.length ∧ i = .int .i64 j ∧ a = .int .i64 l ∧ 0 ≤ l ∧ l ≤ 1048576 ∧ Hid (l = left - kids.length - weights (kids.take j)) ∧ Below w.heap.size w wr) (fun _ i _ => kids.length - (intOf i).toNat)
    case atStart => exact ⟨0, left - kids.length, Nat.zero_le _, rfl, rfl, by omega, by omega, by unfold Hid; simp [weights], Below.refl _ _⟩
    case round =>
      obtain ⟨j, l, hj, rfl, rfl, hl0, hl1, hin, hbel⟩ := hrel
      by_cases hlt : j < kids.length
      · obtain ⟨g, o, rfl, hg, hkid⟩ := (Hk.out.below hbel) (by omega)
        obtain ⟨u0, u1, u2, u3, u4, u5, ⟨q0, q1, q2, q3, q4, q5⟩, hls⟩ := hkid j kids[j] (List.getElem?_eq_getElem hlt)
        have HC := Lib.hid (HE.out kids[j] _ l wr hls ⟨hl0, hl1⟩)
        have hnext : weights (kids.take (j + 1)) = weights (kids.take j) + weight kids[j] := by
          rw [List.take_succ_eq_append_getElem hlt, weights_append]
          simp [weights]
        have hall : weights kids = weights (kids.take (j + 1)) + weights (kids.drop (j + 1)) := by rw [← weights_append, List.take_append_drop]
        have Hbel := Lib.hid hbel
        clear hkid hls hbel hg
        by_cases h1 : l < weight kids[j]
        · have He := Lib.hid (cut_no (show left < ((kids.length + weights kids : Nat) : Int) by have := hin.out; omega))
          rw [cut_no h1] at HC
          clear hnext hall hin h1
          go_wp2_with fail
          refine HC.out.mono ?_
          rintro e w1 ⟨rfl, hb1⟩
          have Hbel1 := Lib.hid (Hbel.out.trans (hb1.mono Hbel.out.size))
          clear hb1 q0 q1 q2 q3 q4 q5
          go_wp2_with fail
          go_ret
          exact ⟨by rw [He.out]; rfl, Hbel1.out⟩
        · have Hin := Lib.hid (show l - weight kids[j] = left - kids.length - weights (kids.take (j + 1)) by have := hin.out; omega)
          rw [cut_yes h1] at HC
          clear hnext hall hin
          generalize weight kids[j] = x at HC h1 Hin
          go_wp2_with fail
          refine HC.out.mono ?_
          rintro e w1 ⟨rfl, hb1⟩
          have Hbel1 := Lib.hid (Hbel.out.trans (hb1.mono Hbel.out.size))
          clear hb1 q0 q1 q2 q3 q4 q5
          go_wp2_with fail
          go_roundw
          case rel => exact ⟨j + 1, l - x, by omega, by go_num, rfl, by omega, by omega, Hin.out, Hbel1.out⟩
          case measure => simp [intOf]; omega
      · obtain rfl : j = kids.length := by omega
        rw [List.take_of_length_le (Nat.le_refl _)] at hin
        have He := Lib.hid (cut_yes (show ¬ left < ((kids.length + weights kids : Nat) : Int) by have := hin.out; omega))
        have Hin := Lib.hid (show left - ((kids.length + weights kids : Nat) : Int) = l by have := hin.out; omega)
        have Hbel := Lib.hid hbel
        clear hin hbel
        go_wp2_with fail
        go_ret
        exact ⟨by rw [He.out, Hin.out]; rfl, Hbel.out⟩
theorem sz_kids : ∀ f, SzKids f
  | 0 => sz_kids_step (fun t vs left w h => by
      obtain ⟨k, fl, n, s, ks, kids⟩ := t
      obtain ⟨_, _, _, _, _, _, _, _, _, _, _, _, _, _, f', hf, _⟩ := open_tree h
      omega)
  | f + 1 => sz_kids_step (fun t vs left w h hl => sz_of (sz_kids f) t vs left w h hl)
/-- szTree of a tree that lies in memory. -/
theorem sz_tree {f : Nat} (t : T) (vs : List Value) (left : Int) (w : World) (h : LiesS w f vs (row t)) (hl : Left left) :
    Calls Tryz.prog 16 #[.agg vs.toArray, .int .i64 left] w fun e w' => e = .returned (.int .i64 (cutW left (weight t))) ∧ Below w.heap.size w w' :=
  sz_of (sz_kids f) t vs left w (h.deeper (Nat.le_succ f)) hl
end Go.Proofs.YtangdmjdjiddcaaGreatDoor.tree
