/- Drawn trees (l08Tree), plain: what holds of each. -/
import Derived.Test.YtegpcjkcejijpaaGreatDoorGPut
import Derived.Test.YtegpcjkcejijpaaGreatDoorGBk
namespace Go.Proofs.YtegpcjkcejijpaaGreatDoor.tree
set_option linter.unusedVariables false

def cap : Nat → Nat
  | 0 => 1
  | d + 1 => 1 + 4 * cap d
def burden : Nat → Nat
  | 0 => 28
  | d + 1 => 4 * (30 + burden d)
def told : Nat → Nat
  | 0 => 44
  | d + 1 => 2 + 4 * (46 + told d)
/-- A tree that was drawn with d levels left below it. -/
structure Good (d : Nat) (t : T) : Prop where
  shape : Shape t
  deep : depth t ≤ d + 1
  size : size t ≤ cap d
  load : weight t ≤ burden d
  text : (say.say t).length ≤ told d
def WordOk (s : ByteArray) : Prop := s.size ≤ 28 ∧ (rune.runesF s).isSome = true ∧ (quote.byB s.data.toList).length ≤ 42
theorem WordOk.text {s : ByteArray} (h : WordOk s) : TextOk s := ⟨Nat.le_trans h.1 (by decide), h.2.1⟩
theorem WordOk.quote {s : ByteArray} (h : WordOk s) : (say.quoteL s).length ≤ 44 := by
  have h2 := h.2.1
  have h3 := h.2.2
  cases hl : rune.runesF s with
  | none => rw [hl] at h2; cases h2
  | some l =>
    unfold say.quoteL
    rw [quote.quoted_yes hl]
    show ((34 :: quote.byB s.data.toList) ++ [34]).length ≤ _
    rw [List.length_append, List.length_cons, List.length_singleton]
    omega
theorem told_pos : ∀ d, 44 ≤ told d
  | 0 => Nat.le_refl _
  | d + 1 => by rw [told]; omega
theorem joinC_le' {c : Nat} : ∀ {l : List (List UInt8)}, (∀ x ∈ l, x.length + 1 ≤ c) → (say.joinC l).length ≤ l.length * c
  | [], _ => by simp [say.joinC]
  | [x], h => by have := h x (by simp); simp [say.joinC]; omega
  | x :: y :: r, h => by
    have h1 := h x (by simp)
    have h2 := joinC_le' (l := y :: r) (fun z hz => h z (List.mem_cons_of_mem _ hz))
    rw [say.joinC, List.length_append, List.length_cons, List.length_cons, Nat.succ_mul]
    omega
theorem pairs_le {c : Nat} : ∀ {ks : List ByteArray} {l : List (List UInt8)}, (∀ k ∈ ks, WordOk k) → (∀ x ∈ l, x.length ≤ c) → ∀ x ∈ List.zipWith say.pairL ks l, x.length + 1 ≤ 46 + c
  | [], l, _, _, x, hx => by simp at hx
  | k :: ks, [], _, _, x, hx => by simp at hx
  | k :: ks, y :: l, hk, hl, x, hx => by
    rw [List.zipWith_cons_cons] at hx
    rcases List.mem_cons.1 hx with rfl | hx
    · have h1 := (hk k (by simp)).quote
      have h2 := hl y (by simp)
      unfold say.pairL
      rw [List.length_append, List.length_cons]
      omega
    · exact pairs_le (fun k hk2 => hk k (List.mem_cons_of_mem _ hk2)) (fun z hz => hl z (List.mem_cons_of_mem _ hz)) x hx
theorem told_node {d : Nat} {k : Int} {ks : List ByteArray} {kids : List T} (hk1 : 5 ≤ k) (hk2 : k ≤ 6) (hw : ∀ x ∈ ks, WordOk x) (hn : kids.length ≤ 4) (hg : ∀ x ∈ kids, (say.say x).length ≤ told d) : (say.say (.mk k false 0 ⟨#[]⟩ ks kids)).length ≤ told (d + 1) := by
  have hm : ∀ x ∈ kids.map say.say, x.length ≤ told d := fun x hx => by obtain ⟨y, hy, rfl⟩ := List.mem_map.1 hx; exact hg y hy
  have h5 : kids.length * (46 + told d) ≤ 4 * (46 + told d) := Nat.mul_le_mul_right _ hn
  rw [told]
  obtain rfl | rfl : k = 5 ∨ k = 6 := by omega
  · rw [say.say5]
    have := joinC_le' (c := 46 + told d) (l := kids.map say.say) (fun x hx => by have := hm x hx; omega)
    rw [List.length_map] at this
    rw [List.length_cons, List.length_append, List.length_singleton]
    omega
  · rw [say.say6]
    have h1 := joinC_le' (pairs_le hw hm)
    have h2 : (List.zipWith say.pairL ks (kids.map say.say)).length * (46 + told d) ≤ kids.length * (46 + told d) := Nat.mul_le_mul_right _ (by rw [List.length_zipWith, List.length_map]; omega)
    rw [List.length_cons, List.length_append, List.length_singleton]
    omega
theorem Good.told {t : T} (h : Good 3 t) : (say.say t).length ≤ 6722 := h.text
theorem cap_pos : ∀ d, 1 ≤ cap d
  | 0 => Nat.le_refl _
  | d + 1 => by rw [cap]; omega
theorem burden_pos : ∀ d, 28 ≤ burden d
  | 0 => Nat.le_refl _
  | d + 1 => by rw [burden]; omega
theorem Good.ok {d : Nat} {t : T} (h : Good d t) (hd : d ≤ 3) : Ok t := by
  have h1 := h.deep
  have h2 := h.size
  refine ⟨by omega, ?_, h.shape⟩
  match d, hd with
  | 0, _ => simp [cap] at h2; omega
  | 1, _ => simp [cap] at h2; omega
  | 2, _ => simp [cap] at h2; omega
  | 3, _ => simp [cap] at h2; omega
theorem Good.light {d : Nat} {t : T} (h : Good d t) (hd : d ≤ 3) : weight t ≤ 9736 := by
  have h2 := h.load
  match d, hd with
  | 0, _ => simp [burden] at h2; omega
  | 1, _ => simp [burden] at h2; omega
  | 2, _ => simp [burden] at h2; omega
  | 3, _ => simp [burden] at h2; omega
theorem Good.leaf {d : Nat} {k : Int} {fl : Bool} {n : Int} {s : ByteArray} (hf : Fit k fl n s 0 0) (hs : WordOk s) (hi : -9223372036854775808 ≤ n ∧ n ≤ 9223372036854775807) : Good d (.mk k fl n s [] []) := by
  have h1 := cap_pos d
  have h2 := burden_pos d
  refine ⟨?_, by simp [depth, depths], by simp [tree.size, sizes]; omega, ?_, ?_⟩
  · rw [Shape]
    exact ⟨hf, hs.text, fun i hi => by simp at hi, by simp [Shapes]⟩
  · have := hs.1
    simp [weight, weights, weightK]
    omega
  · have h3 := told_pos d
    have h4 := hs.quote
    have h5 := say.itoa_le n hi.1 hi.2
    obtain ⟨f1, f2, _⟩ := hf
    obtain rfl | rfl | rfl | rfl | rfl | rfl : k = 1 ∨ k = 2 ∨ k = 3 ∨ k = 4 ∨ k = 5 ∨ k = 6 := by omega
    · rw [say.say1]; simp only [say.nullL, List.length_cons, List.length_nil]; omega
    · rw [say.say2]; split <;> simp only [say.trueL, say.falseL, List.length_cons, List.length_nil] <;> omega
    · rw [say.say3]; omega
    · rw [say.say4]; omega
    · rw [say.say5]; simp [say.joinC]; omega
    · rw [say.say6]; simp [say.joinC]; omega
theorem sizes_le {c : Nat} : ∀ {l : List T}, (∀ x ∈ l, tree.size x ≤ c) → sizes l ≤ l.length * c
  | [], _ => by simp [sizes]
  | t :: r, h => by
    have h1 := h t (by simp)
    have h2 := sizes_le (l := r) (fun x hx => h x (by simp [hx]))
    rw [sizes, List.length_cons, Nat.succ_mul]
    omega
theorem weights_le {c : Nat} : ∀ {l : List T}, (∀ x ∈ l, weight x ≤ c) → weights l ≤ l.length * c
  | [], _ => by simp [weights]
  | t :: r, h => by
    have h1 := h t (by simp)
    have h2 := weights_le (l := r) (fun x hx => h x (by simp [hx]))
    rw [weights, List.length_cons, Nat.succ_mul]
    omega
theorem depths_le {c : Nat} : ∀ {l : List T}, (∀ x ∈ l, depth x ≤ c) → depths l ≤ c
  | [], _ => by simp [depths]
  | t :: r, h => by
    have h1 := h t (by simp)
    have h2 := depths_le (l := r) (fun x hx => h x (by simp [hx]))
    rw [depths]
    omega
theorem weightK_le {c : Nat} : ∀ {l : List ByteArray}, (∀ x ∈ l, x.size ≤ c) → weightK l ≤ l.length * c
  | [], _ => by simp [weightK]
  | t :: r, h => by
    have h1 := h t (by simp)
    have h2 := weightK_le (l := r) (fun x hx => h x (by simp [hx]))
    rw [weightK, List.length_cons, Nat.succ_mul]
    omega
theorem Good.node {d : Nat} {k : Int} {ks : List ByteArray} {kids : List T} (hk5 : 5 ≤ k) (hf : Fit k false 0 ⟨#[]⟩ ks.length kids.length) (hk : KeysOk ks) (hw : ∀ x ∈ ks, WordOk x) (hn1 : ks.length ≤ 4) (hn : kids.length ≤ 4) (hg : ∀ x ∈ kids, Good d x) : Good (d + 1) (.mk k false 0 ⟨#[]⟩ ks kids) := by
  have h1 := sizes_le (c := cap d) (fun x hx => (hg x hx).size)
  have h2 := weights_le (c := burden d) (fun x hx => (hg x hx).load)
  have h3 := depths_le (c := d + 1) (fun x hx => (hg x hx).deep)
  have h4 := weightK_le (fun x hx => (hw x hx).1)
  have h5 : kids.length * cap d ≤ 4 * cap d := Nat.mul_le_mul_right _ hn
  have h6 : kids.length * burden d ≤ 4 * burden d := Nat.mul_le_mul_right _ hn
  refine ⟨?_, ?_, ?_, ?_, ?_⟩
  · rw [Shape]
    exact ⟨hf, ⟨by decide, by decide⟩, hk, (shapes_iff kids).2 (fun x hx => (hg x hx).shape)⟩
  · rw [depth]; omega
  · rw [tree.size, cap]; omega
  · have h0 : (⟨#[]⟩ : ByteArray).size = 0 := rfl
    rw [weight, burden, h0]; omega
  · exact told_node hk5 hf.2.1 hw hn (fun x hx => (hg x hx).text)
theorem Good.list {d : Nat} {kids : List T} (hn : kids.length ≤ 4) (hg : ∀ x ∈ kids, Good d x) : Good (d + 1) (listT kids) :=
  Good.node (by decide) (by refine ⟨by decide, by decide, by simp, by simp, by simp [ByteArray.size], by simp, by simp, by simp⟩) (fun i hi => by simp at hi) (by simp) (by simp) hn hg
/-- A map under way: i keys at most. -/
structure MapGood (d i : Nat) (t : T) : Prop where
  form : ∃ ks kids, t = .mk 6 false 0 ⟨#[]⟩ ks kids ∧ ks.length = kids.length ∧ kids.length ≤ i ∧ KeysOk ks ∧ (∀ x ∈ ks, WordOk x) ∧ ∀ x ∈ kids, Good d x
theorem MapGood.start (d : Nat) : MapGood d 0 (.mk 6 false 0 ⟨#[]⟩ [] []) := ⟨[], [], rfl, rfl, Nat.le_refl _, fun i hi => by simp at hi, by simp, by simp⟩
theorem MapGood.good {d i : Nat} {t : T} (h : MapGood d i t) (hi : i ≤ 4) : Good (d + 1) t := by
  obtain ⟨ks, kids, rfl, h1, h2, h3, h4, h5⟩ := h.form
  exact Good.node (by decide) ⟨by decide, by decide, by simp, by simp, by simp [ByteArray.size], by simp, by simp, fun _ => h1⟩ h3 h4 (by omega) (by omega) h5
theorem put_mem {key : ByteArray} {kid : T} : ∀ {zs : List (ByteArray × T)} {laid : Bool}, (∀ p ∈ put key kid laid zs, p ∈ zs ∨ p = (key, kid)) ∧ (put key kid laid zs).length ≤ zs.length + (if laid then 0 else 1)
  | [], laid => by cases laid <;> simp [put]
  | (k, x) :: r, laid => by
    have h1 := put_mem (key := key) (kid := kid) (zs := r) (laid := laid)
    have h2 := put_mem (key := key) (kid := kid) (zs := r) (laid := true)
    have h3 := put_mem (key := key) (kid := kid) (zs := r) (laid := false)
    rw [put]
    constructor
    · intro p hp
      by_cases he : k = key <;> cases laid <;> cases hl : less k key <;> simp [he, hl] at hp <;> grind
    · by_cases he : k = key <;> cases laid <;> cases hl : less k key <;> simp [he] at h1 h2 h3 ⊢ <;> omega
theorem MapGood.put {d i : Nat} {t kid : T} {key : ByteArray} (h : MapGood d i t) (hk : WordOk key) (hg : Good d kid) : MapGood d (i + 1) (putKid t key kid).1 := by
  obtain ⟨ks, kids, rfl, h1, h2, h3, h4, h5⟩ := h.form
  by_cases hc : (T.mk 6 false 0 ⟨#[]⟩ ks kids).kind = 6 ∧ Ok (.mk 6 false 0 ⟨#[]⟩ ks kids) ∧ Ok (putT (.mk 6 false 0 ⟨#[]⟩ ks kids) key kid)
  · unfold putKid
    rw [if_pos hc]
    have hs := hc.2.2.2.2
    unfold putT at hs ⊢
    simp only [T.keys, T.kids] at hs ⊢
    have hm := put_mem (key := key) (kid := kid) (zs := ks.zip kids) (laid := false)
    rw [Shape] at hs
    refine ⟨_, _, rfl, by simp, ?_, hs.2.2.1, ?_, ?_⟩
    · have h6 := hm.2
      rw [List.length_map]
      rw [List.length_zip] at h6
      simp at h6
      omega
    · intro x hx
      obtain ⟨p, hp, rfl⟩ := List.mem_map.1 hx
      rcases hm.1 p hp with hz | rfl
      · exact h4 _ (List.of_mem_zip (a := p.1) (b := p.2) hz).1
      · exact hk
    · intro x hx
      obtain ⟨p, hp, rfl⟩ := List.mem_map.1 hx
      rcases hm.1 p hp with hz | rfl
      · exact h5 _ (List.of_mem_zip (a := p.1) (b := p.2) hz).2
      · exact hg
  · unfold putKid
    rw [if_neg hc]
    exact ⟨ks, kids, rfl, h1, by omega, h3, h4, h5⟩
end Go.Proofs.YtegpcjkcejijpaaGreatDoor.tree
