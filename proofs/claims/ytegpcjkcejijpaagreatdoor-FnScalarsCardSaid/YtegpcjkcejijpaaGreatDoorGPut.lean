/- Merged: PutM MidS PutL. -/
import Derived.Test.YtegpcjkcejijpaaGreatDoorGTree
import Derived.Sort.Walk0
import Derived.Deep.WholeRow
import Derived.ProofKit
namespace Go.Proofs.YtegpcjkcejijpaaGreatDoor.tree
open Go Go.RowKit
set_option linter.unusedVariables false

theorem less_iff (a b : ByteArray) : less a b = true ↔ a.toList < b.toList := by
  unfold less
  rw [bytesLess_eq]
  simp
theorem less_self (a : ByteArray) : less a a = false := by
  cases h : less a a with
  | false => rfl
  | true => exact absurd ((less_iff a a).1 h) (List.lt_irrefl _)
theorem less_trans {a b c : ByteArray} (h : less a b = true) (h' : less b c = true) : less a c = true :=
  (less_iff a c).2 (List.lt_trans ((less_iff a b).1 h) ((less_iff b c).1 h'))
theorem pair_of_next {ks : List ByteArray} (h : ∀ i (hi : i + 1 < ks.length), less (ks[i]'(by omega)) ks[i + 1] = true) : ks.Pairwise (fun a b => less a b = true) := by
  rw [List.pairwise_iff_getElem]
  have key : ∀ d i (hi : i + d + 1 < ks.length), less (ks[i]'(by omega)) (ks[i + d + 1]'hi) = true := by
    intro d
    induction d with
    | zero => intro i hi; exact h i hi
    | succ d ih => intro i hi; exact less_trans (ih i (by omega)) (h (i + d + 1) hi)
  intro i j hi hj hij
  obtain ⟨d, rfl⟩ : ∃ d, j = i + d + 1 := ⟨j - i - 1, by omega⟩
  exact key d i hj
theorem pair_of_keys {ks : List ByteArray} (h : KeysOk ks) : ks.Pairwise (fun a b => less a b = true) := by
  refine pair_of_next fun i hi => ?_
  have h2 := (h (i + 1) hi).2 (by omega)
  rw [Nat.add_sub_cancel] at h2
  simpa [List.getD_eq_getElem?_getD, List.getElem?_eq_getElem hi, List.getElem?_eq_getElem (show i < ks.length by omega)] using h2
theorem put_true (key : ByteArray) (kid : T) : ∀ zs : List (ByteArray × T), (∀ p ∈ zs, p.1 ≠ key) → put key kid true zs = zs
  | [], _ => by simp [put]
  | (k, x) :: r, h => by
    have hk : k ≠ key := h (k, x) List.mem_cons_self
    rw [put]
    simp only [Bool.not_true, Bool.false_and, if_false, List.nil_append, if_neg hk, Bool.true_or, Bool.false_eq_true]
    rw [put_true key kid r (fun p hp => h p (List.mem_cons_of_mem _ hp))]
    rfl
/-- Where a kid is put: behind the keys that are less, in the place of its own. -/
def behind (ks : List ByteArray) (key : ByteArray) (i : Nat) : Nat := if ks[i]? = some key then i + 1 else i
theorem put_cut (key : ByteArray) (kid : T) : ∀ (zs : List (ByteArray × T)) (i : Nat), zs.Pairwise (fun a b => less a.1 b.1 = true) → i ≤ zs.length → (∀ p ∈ zs.take i, less p.1 key = true) → (∀ p ∈ zs.drop i, less p.1 key = false) →
    put key kid false zs = zs.take i ++ (key, kid) :: zs.drop (behind (zs.map (·.1)) key i)
  | [], i, _, hi, _, _ => by
    obtain rfl : i = 0 := by simpa using hi
    simp [put, behind]
  | (k, x) :: r, i, hp, hi, h1, h2 => by
    rw [List.pairwise_cons] at hp
    cases hk : less k key with
    | true =>
      cases i with
      | zero => have := h2 (k, x) (by simp); rw [hk] at this; cases this
      | succ i =>
        have hne : k ≠ key := fun e => by rw [e, less_self] at hk; cases hk
        have ih := put_cut key kid r i hp.2 (by simpa using hi) (fun p hp => h1 p (by simp [hp])) (fun p hp => h2 p (by simpa using hp))
        rw [put]
        simp only [hk, Bool.not_true, Bool.and_false, Bool.or_false, if_neg hne, List.nil_append, Bool.false_eq_true, if_false, ih]
        have e : behind (((k, x) :: r).map (·.1)) key (i + 1) = behind (r.map (·.1)) key i + 1 := by
          unfold behind
          simp only [List.map_cons, List.getElem?_cons_succ]
          split <;> rfl
        rw [e]
        simp
    | false =>
      cases i with
      | succ i => have := h1 (k, x) (by simp); rw [hk] at this; cases this
      | zero =>
        have hr : ∀ p ∈ r, p.1 ≠ key := fun p hpr e => by have := hp.1 p hpr; rw [e, hk] at this; cases this
        rw [put]
        simp only [hk, Bool.not_false, Bool.and_true, if_true, Bool.false_or]
        rw [put_true key kid r hr]
        by_cases e : k = key
        · simp [behind, e]
        · simp [behind, e]
theorem putT_cut {t : T} {key : ByteArray} {kid : T} {i : Nat} (hl : t.keys.length = t.kids.length) (hp : t.keys.Pairwise (fun a b => less a b = true)) (hi : i ≤ t.keys.length)
    (h1 : ∀ k ∈ t.keys.take i, less k key = true) (h2 : ∀ k ∈ t.keys.drop i, less k key = false) :
    putT t key kid = .mk 6 false 0 ⟨#[]⟩ (t.keys.take i ++ key :: t.keys.drop (behind t.keys key i)) (t.kids.take i ++ kid :: t.kids.drop (behind t.keys key i)) := by
  have hm : (t.keys.zip t.kids).map (·.1) = t.keys := List.map_fst_zip (by omega)
  have hm2 : (t.keys.zip t.kids).map (·.2) = t.kids := List.map_snd_zip (by omega)
  have hz : (t.keys.zip t.kids).Pairwise (fun a b => less a.1 b.1 = true) := by
    have := hp
    rw [← hm, List.pairwise_map] at this
    exact this
  have hc := put_cut key kid (t.keys.zip t.kids) i hz (by simp; omega)
    (fun p hpm => h1 p.1 (by rw [← hm, ← List.map_take]; exact List.mem_map_of_mem hpm))
    (fun p hpm => h2 p.1 (by rw [← hm, ← List.map_drop]; exact List.mem_map_of_mem hpm))
  rw [hm] at hc
  unfold putT
  rw [hc]
  simp only [List.map_append, List.map_cons, List.map_take, List.map_drop, hm, hm2]
end Go.Proofs.YtegpcjkcejijpaaGreatDoor.tree
namespace Go.Proofs.YtegpcjkcejijpaaGreatDoor.tree
open Go.ChangeShapes Go.WideShapes Go.ChangeAt Go.RowKit
set_option linter.unusedVariables false

theorem row_setCell {w : World} {B size n g o : Nat} {e : TypeId} {v u : Value} {xs : List Value} (h : w.ownsRow B e size v n xs) (hg : g < B) : (w.setCell ⟨g, o, none⟩ u).ownsRow B e size v n xs := by
  refine ⟨h.1, ?_⟩
  rcases h.2 with h6 | ⟨k, cap, cur, k1, k2, k3, k4⟩
  · exact .inl h6
  · exact .inr ⟨k, cap, cur, k1, k2, (Below.heap_setCell _ _ _ _ (by show k ≠ g; omega)).trans k3, k4⟩

structure Mid (e1 e2 : TypeId) (w : World) (B f g : Nat) (ks : List ByteArray) (kids : List T) (v1 v2 : Value) (xs : List Value) (F : List Nat) : Prop where
  lt : g < B
  low : B ≤ w.heap.size
  at_ : w.heap[g]? = some (.cells #[.int .i64 6, .bool false, .int .i64 0, .string ⟨#[]⟩, v1, v2] e2 (0, 0))
  r1 : w.ownsRow B e1 1 v1 ks.length (scells ks)
  r2 : w.ownsRow B e2 6 v2 kids.length xs
  o : OwnS w B f xs (rows kids) F
  nd : F.Nodup
  n2 : ∀ y ∈ F, v2.ownBlock ≠ some y
  n1 : ∀ y ∈ F, v1.ownBlock ≠ some y
  ne : ∀ y, v1.ownBlock = some y → v2.ownBlock ≠ some y

theorem kept_either {w w' : World} {B size n : Nat} {e : TypeId} {v x : Value} {xs : List Value} (h : w.ownsRow B e size v n xs) (hg : w.grownBy w' x.ownBlock) (hne : ∀ y, v.ownBlock = some y → x.ownBlock ≠ some y) : w'.ownsRow B e size v n xs := by
  refine h.kept hg ?_
  cases hv : v.ownBlock with
  | none => exact .inl rfl
  | some y => exact .inr (fun e => hne y hv e.symm)

variable {e1 e2 : TypeId} {w wa w' : World} {B f g : Nat} {ks : List ByteArray} {kids : List T} {v1 v2 : Value} {xs : List Value} {F : List Nat}
theorem Mid.of_below (h : Mid e1 e2 w B f g ks kids v1 v2 xs F) (hb : Below w.heap.size w wa) : Mid e1 e2 wa B f g ks kids v1 v2 xs F :=
  ⟨h.lt, Nat.le_trans h.low hb.size, heap_kept hb (heap_lt h.at_) h.at_, own_below' h.r1 hb, own_below' h.r2 hb, h.o.below hb, h.nd, h.n2, h.n1, h.ne⟩
theorem Mid.key {v1' : Value} {k : ByteArray} (h : Mid e1 e2 wa B f g ks kids v1 v2 xs F)
    (hown : w'.ownsRow B e1 1 v1' (ks.length + 1) (scells ks ++ [.string k])) (hg : wa.grownBy w' v1.ownBlock) (hat : v1'.ownBlock = v1.ownBlock ∨ v1'.ownBlock = some wa.heap.size) :
    Mid e1 e2 (w'.setCell ⟨g, 4, none⟩ v1') B f g (ks ++ [k]) kids v1' v2 xs F ∧ Below g wa (w'.setCell ⟨g, 4, none⟩ v1') := by
  have hlt := h.lt
  have hgs : g < wa.heap.size := heap_lt h.at_
  have hb1 : ∀ y, v1.ownBlock = some y → B ≤ y ∧ y < wa.heap.size := h.r1.lt
  have hb2 : ∀ y, v2.ownBlock = some y → B ≤ y ∧ y < wa.heap.size := h.r2.lt
  have hne : (some g : Option Nat) ≠ v1.ownBlock := fun e => by have := (hb1 _ e.symm).1; omega
  have h1 := (hg.block g hgs hne).trans h.at_
  refine ⟨⟨hlt, Nat.le_trans h.low (Nat.le_trans hg.size (by simp [World.setCell])), heap_setCell_same _ _ _ _ _ _ h1, ?_, row_setCell (kept_either h.r2 hg (fun y hy e => h.ne y e hy)) hlt, ?_, h.nd, h.n2, ?_, ?_⟩, ?_⟩
  · refine row_setCell ?_ hlt
    simpa [scells] using hown
  · refine OwnS.kept (fun x hx => ?_) h.o
    have hr := h.o.range x hx
    exact (Below.heap_setCell _ _ _ _ (by show x ≠ g; omega)).trans (hg.block x hr.2 (fun e => h.n1 x hx e.symm))
  · intro y hy e
    rcases hat with hh | hh
    · exact h.n1 y hy (hh ▸ e)
    · rw [hh] at e; injection e with e; have := (h.o.range y hy).2; omega
  · intro y hy e
    rcases hat with hh | hh
    · exact h.ne y (hh ▸ hy) e
    · rw [hh] at hy; injection hy with hy; have := (hb2 y e).2; omega
  · exact ((Below.refl _ _).grown hg (Nat.le_of_lt hgs) (fun b hb => by have := (hb1 b hb).1; omega)).setCell (Nat.le_refl _) _
theorem Mid.kid {v2' : Value} {x : T} {us : List Value} {G : List Nat} {N : Nat} (h : Mid e1 e2 wa B f g ks kids v1 v2 xs F)
    (ho : OwnS wa N f us (row x) G) (hnG : G.Nodup) (hF : ∀ y ∈ F, y < N) (h1N : ∀ y, v1.ownBlock = some y → y < N) (h2N : ∀ y, v2.ownBlock = some y → y < N) (hBN : B ≤ N)
    (hown : w'.ownsRow B e2 6 v2' (kids.length + 1) (xs ++ us)) (hg : wa.grownBy w' v2.ownBlock) (hat : v2'.ownBlock = v2.ownBlock ∨ v2'.ownBlock = some wa.heap.size) :
    Mid e1 e2 (w'.setCell ⟨g, 5, none⟩ v2') B f g ks (kids ++ [x]) v1 v2' (xs ++ us) (F ++ G) ∧ Below g wa (w'.setCell ⟨g, 5, none⟩ v2') := by
  have hlt := h.lt
  have hgs : g < wa.heap.size := heap_lt h.at_
  have hb1 : ∀ y, v1.ownBlock = some y → B ≤ y ∧ y < wa.heap.size := h.r1.lt
  have hb2 : ∀ y, v2.ownBlock = some y → B ≤ y ∧ y < wa.heap.size := h.r2.lt
  have hne : (some g : Option Nat) ≠ v2.ownBlock := fun e => by have := (hb2 _ e.symm).1; omega
  have h1 := (hg.block g hgs hne).trans h.at_
  have hG : ∀ y ∈ G, N ≤ y ∧ y < wa.heap.size := ho.range
  have hoA := OwnS.append h.o (ho.lower hBN)
  have hv2 : ∀ y ∈ F ++ G, v2.ownBlock ≠ some y := fun y hy e => by
    rcases List.mem_append.1 hy with hy | hy
    · exact h.n2 y hy e
    · have := h2N y e; have := (hG y hy).1; omega
  have e1' : rows (kids ++ [x]) = rows kids ++ row x := by rw [rows_append]; simp [rows]
  refine ⟨⟨hlt, Nat.le_trans h.low (Nat.le_trans hg.size (by simp [World.setCell])), heap_setCell_same _ _ _ _ _ _ h1, row_setCell (kept_either h.r1 hg (fun y hy e => h.ne y hy e)) hlt, ?_, ?_, ?_, ?_, ?_, ?_⟩, ?_⟩
  · refine row_setCell ?_ hlt
    simpa using hown
  · rw [e1']
    refine OwnS.kept (fun y hy => ?_) hoA
    have hr := hoA.range y hy
    exact (Below.heap_setCell _ _ _ _ (by show y ≠ g; omega)).trans (hg.block y hr.2 (fun e => hv2 y hy e.symm))
  · exact List.nodup_append.2 ⟨h.nd, hnG, fun a ha b hb e => by have := hF a ha; have := (hG b hb).1; omega⟩
  · intro y hy e
    rcases hat with hh | hh
    · exact hv2 y hy (hh ▸ e)
    · rw [hh] at e; injection e with e; have := (hoA.range y hy).2; omega
  · intro y hy e
    rcases List.mem_append.1 hy with hy | hy
    · exact h.n1 y hy e
    · have := h1N y e; have := (hG y hy).1; omega
  · intro y hy e
    rcases hat with hh | hh
    · exact h.ne y hy (hh ▸ e)
    · rw [hh] at e; injection e with e; have := (hb1 y hy).2; omega
  · exact ((Below.refl _ _).grown hg (Nat.le_of_lt hgs) (fun b hb => by have := (hb2 b hb).1; omega)).setCell (Nat.le_refl _) _
theorem Mid.stay {x : Value} (h : Mid e1 e2 wa B f g ks kids v1 v2 xs F) (hg : wa.grownBy w' x.ownBlock) (hx : x = v1 ∨ x = v2) : w'.heap[g]? = some (.cells #[.int .i64 6, .bool false, .int .i64 0, .string ⟨#[]⟩, v1, v2] e2 (0, 0)) := by
  refine (hg.block g (heap_lt h.at_) (fun e => ?_)).trans h.at_
  have hlt := h.lt
  rcases hx with rfl | rfl
  · have := (h.r1.lt g e.symm).1; omega
  · have := (h.r2.lt g e.symm).1; omega
/-- The copy's bounds out of the world ahead of it. -/
theorem Mid.bounds (h : Mid e1 e2 w B f g ks kids v1 v2 xs F) : (∀ y ∈ F, y < w.heap.size) ∧ (∀ y, v1.ownBlock = some y → y < w.heap.size) ∧ (∀ y, v2.ownBlock = some y → y < w.heap.size) ∧ g < w.heap.size :=
  ⟨fun y hy => (h.o.range y hy).2, fun y hy => (h.r1.lt y hy).2, fun y hy => (h.r2.lt y hy).2, heap_lt h.at_⟩
theorem Mid.out (h : Mid e1 e2 w B (f + 1) g ks kids v1 v2 xs F) (hs : ∀ x ∈ ks, x.size ≤ maxLen) :
    ∃ F', OwnS w B (f + 3) [.int .i64 6, .bool false, .int .i64 0, .string ⟨#[]⟩, v1, v2] (row (.mk 6 false 0 ⟨#[]⟩ ks kids)) F' ∧ F'.Nodup := by
  obtain ⟨F1, hF1⟩ : ∃ F1, v1.ownBlock = none ∧ F1 = [] ∨ ∃ g, v1.ownBlock = some g ∧ F1 = [g] := by
    cases h1 : v1.ownBlock with
    | none => exact ⟨[], .inl ⟨rfl, rfl⟩⟩
    | some y => exact ⟨[y], .inr ⟨y, rfl, rfl⟩⟩
  have o1 := own_strs_back (f := f + 1) h.r1 rfl hs hF1
  obtain ⟨h3, Fs, h4, h4', h5⟩ := h.o
  obtain ⟨F2, hF2, hc⟩ := own_of_row (B := B) (B' := B) h.r2 (Nat.le_refl _) (rows_length kids) h4 h5
  have hn2 : F2.Nodup ∧ ∀ y ∈ F2, v2.ownBlock = some y ∨ y ∈ F := by
    rcases hc with ⟨_, rfl⟩ | ⟨g, c, rfl, _, _, rfl⟩
    · exact ⟨List.nodup_nil, fun y hy => by cases hy⟩
    · rw [← h4']
      refine ⟨List.nodup_cons.2 ⟨fun hx => h.n2 g hx rfl, h.nd⟩, fun y hy => ?_⟩
      rcases List.mem_cons.1 hy with rfl | hy
      · exact .inl rfl
      · exact .inr hy
  have hn1 : F1.Nodup ∧ ∀ y ∈ F1, v1.ownBlock = some y := by
    rcases hF1 with ⟨_, rfl⟩ | ⟨y, hy, rfl⟩
    · exact ⟨List.nodup_nil, fun y hy => by cases hy⟩
    · exact ⟨by simp, fun z hz => by simp at hz; rw [hz]; exact hy⟩
  obtain ⟨F', q1, q2, _⟩ := own_tree (k := 6) (fl := false) (n := 0) (s := ⟨#[]⟩) (by decide) (by decide) (by decide) o1 (hF2.deeper (by omega)) hn1.1 hn2.1 (fun y hy hy2 => by
    rcases hn2.2 y hy2 with h6 | h6
    · exact h.ne y (hn1.2 y hy) h6
    · exact h.n1 y h6 (hn1.2 y hy))
  exact ⟨F', q1, q2⟩
end Go.Proofs.YtegpcjkcejijpaaGreatDoor.tree
namespace Go.Proofs.YtegpcjkcejijpaaGreatDoor.tree
set_option linter.unusedVariables false

/-- j rounds are done. -/
def Lay (key : ByteArray) (kid : T) (zs : List (ByteArray × T)) (j : Nat) (laid : Bool) (ks : List ByteArray) (kids : List T) : Prop :=
  ks.length = kids.length ∧ ks.length ≤ 2 * j ∧ (∀ x ∈ ks, x.size ≤ maxLen) ∧ ks.zip kids ++ put key kid laid (zs.drop j) = put key kid false zs
/-- Half of a round is done: (k, x) is still to come. -/
def Half (key : ByteArray) (kid : T) (zs : List (ByteArray × T)) (j : Nat) (k : ByteArray) (x : T) (laid : Bool) (ks : List ByteArray) (kids : List T) : Prop :=
  ks.length = kids.length ∧ ks.length ≤ 2 * j + 1 ∧ (∀ x ∈ ks, x.size ≤ maxLen) ∧ ks.zip kids ++ ((if k = key then [] else [(k, x)]) ++ put key kid laid (zs.drop (j + 1))) = put key kid false zs
variable {key : ByteArray} {kid : T} {zs : List (ByteArray × T)} {j : Nat} {laid : Bool} {ks : List ByteArray} {kids : List T} {k : ByteArray} {x : T}
theorem Lay.start : Lay key kid zs 0 false [] [] := by
  refine ⟨rfl, Nat.zero_le _, ?_, ?_⟩
  · intro y hy
    cases hy
  · simp
theorem zip_snoc (h : ks.length = kids.length) : (ks ++ [k]).zip (kids ++ [x]) = ks.zip kids ++ [(k, x)] := by
  rw [List.zip_append h]; rfl
theorem mem_snoc_size (h : ∀ x ∈ ks, x.size ≤ maxLen) (hk : k.size ≤ maxLen) : ∀ x ∈ ks ++ [k], x.size ≤ maxLen := by
  intro x hx
  rcases List.mem_append.1 hx with hx | hx
  · exact h x hx
  · rw [List.mem_singleton] at hx; subst hx; exact hk
theorem Lay.skip (h : Lay key kid zs j laid ks kids) (hz : zs[j]? = some (k, x)) (hc : laid = true ∨ less k key = true) : Half key kid zs j k x laid ks kids := by
  obtain ⟨h1, h2, h3, h4⟩ := h
  obtain ⟨hj, he⟩ := List.getElem?_eq_some_iff.1 hz
  refine ⟨h1, by omega, h3, ?_⟩
  rw [← h4, List.drop_eq_getElem_cons hj, he, put]
  rcases hc with rfl | hl
  · simp
  · simp [hl]
theorem Lay.lay (h : Lay key kid zs j false ks kids) (hz : zs[j]? = some (k, x)) (hl : less k key = false) (hk : key.size ≤ maxLen) : Half key kid zs j k x true (ks ++ [key]) (kids ++ [kid]) := by
  obtain ⟨h1, h2, h3, h4⟩ := h
  obtain ⟨hj, he⟩ := List.getElem?_eq_some_iff.1 hz
  refine ⟨by simp [h1], by simp; omega, mem_snoc_size h3 hk, ?_⟩
  rw [← h4, List.drop_eq_getElem_cons hj, he, put, zip_snoc h1]
  simp [hl]
theorem Half.skip (h : Half key kid zs j k x laid ks kids) (he : k = key) : Lay key kid zs (j + 1) laid ks kids := by
  obtain ⟨h1, h2, h3, h4⟩ := h
  refine ⟨h1, by omega, h3, ?_⟩
  rw [← h4, if_pos he]; rfl
theorem Half.push (h : Half key kid zs j k x laid ks kids) (he : k ≠ key) (hk : k.size ≤ maxLen) : Lay key kid zs (j + 1) laid (ks ++ [k]) (kids ++ [x]) := by
  obtain ⟨h1, h2, h3, h4⟩ := h
  refine ⟨by simp [h1], by simp; omega, mem_snoc_size h3 hk, ?_⟩
  rw [← h4, if_neg he, zip_snoc h1]
  simp
theorem map_zip (h : ks.length = kids.length) : (ks.zip kids).map (·.1) = ks ∧ (ks.zip kids).map (·.2) = kids := by
  constructor
  · rw [List.map_fst_zip (by omega)]
  · rw [List.map_snd_zip (by omega)]
theorem Lay.done (h : Lay key kid zs zs.length true ks kids) : T.mk 6 false 0 ⟨#[]⟩ ((put key kid false zs).map (·.1)) ((put key kid false zs).map (·.2)) = .mk 6 false 0 ⟨#[]⟩ ks kids := by
  obtain ⟨h1, h2, h3, h4⟩ := h
  rw [← h4, List.drop_of_length_le (Nat.le_refl _), put]
  simp [map_zip h1]
theorem Lay.last (h : Lay key kid zs zs.length false ks kids) : T.mk 6 false 0 ⟨#[]⟩ ((put key kid false zs).map (·.1)) ((put key kid false zs).map (·.2)) = .mk 6 false 0 ⟨#[]⟩ (ks ++ [key]) (kids ++ [kid]) := by
  obtain ⟨h1, h2, h3, h4⟩ := h
  rw [← h4, List.drop_of_length_le (Nat.le_refl _), put]
  have h5 := map_zip (ks := ks ++ [key]) (kids := kids ++ [kid]) (by simp [h1])
  simp only [Bool.false_eq_true, if_false]
  rw [← zip_snoc h1, h5.1, h5.2]
end Go.Proofs.YtegpcjkcejijpaaGreatDoor.tree
