/- Trees whose own lists are still to be made, at known places of memory (a stack of them): what is left of the world when all are made (Fin), and one step: the top's own lists are made, its kids pushed. Over any program. -/
import Derived.Test.YtmldigfghiofkaaTreeL
import Derived.Test.YtmldigfghiofkaaCellW
namespace Go.Proofs.Ytmldigfghiofkaa.tree
open Go Go.RowKit
set_option linter.unusedVariables false

abbrev It := Nat × Nat × T
/-- Six cells at a place. -/
def At6 (w : World) (g o : Nat) (us : List Value) : Prop := us.length = 6 ∧ ∀ j u, us[j]? = some u → w.cell? ⟨g, o + j, none⟩ = some u
/-- All are made, in blocks F of their own. -/
def FillL (w : World) (B : Nat) : List It → List Nat → Prop
  | [], F => F = []
  | it :: r, F => ∃ us F1 F2, F = F1 ++ F2 ∧ At6 w it.1 it.2.1 us ∧ OwnS w B (depth it.2.2 + 1) us (row it.2.2) F1 ∧ FillL w B r F2
structure Fr (w w' : World) (sb : Option Nat) (todo : List It) : Prop where
  os : w'.os = w.os
  tape : w'.tape = w.tape
  output : w'.output = w.output
  size : w.heap.size ≤ w'.heap.size
  same : ∀ k, k < w.heap.size → some k ≠ sb → (∀ it ∈ todo, it.1 ≠ k) → w'.heap[k]? = w.heap[k]?
  part : ∀ k cur e z, w.heap[k]? = some (.cells cur e z) → some k ≠ sb → ∃ cur', w'.heap[k]? = some (.cells cur' e z) ∧ cur'.size = cur.size ∧ ∀ j, (∀ it ∈ todo, it.1 = k → j ≠ it.2.1 + 4 ∧ j ≠ it.2.1 + 5) → cur'[j]? = cur[j]?
def Fin (w w' : World) (sb : Option Nat) (todo : List It) (B : Nat) : Prop := Fr w w' sb todo ∧ ∃ F, FillL w' B todo F ∧ F.Nodup ∧ ∀ x ∈ F, w.heap.size ≤ x
theorem Fr.refl (w : World) (sb : Option Nat) (todo : List It) : Fr w w sb todo := ⟨rfl, rfl, rfl, Nat.le_refl _, fun _ _ _ _ => rfl, fun k cur e z h _ => ⟨cur, h, rfl, fun _ _ => rfl⟩⟩
theorem Fin.nil (w : World) (sb : Option Nat) (B : Nat) : Fin w w sb [] B := ⟨Fr.refl _ _ _, [], rfl, List.nodup_nil, fun x hx => by cases hx⟩

/-- The first n kids at block g, the last one first. -/
def kidIts (g : Nat) (kids : List T) : Nat → List It
  | 0 => []
  | n + 1 => (g, n * 6, kids.getD n zero) :: kidIts g kids n
theorem kidIts_block {g : Nat} {kids : List T} {n : Nat} : ∀ it ∈ kidIts g kids n, it.1 = g := by
  induction n with
  | zero => intro it h; cases h
  | succ n ih =>
    intro it h
    rcases List.mem_cons.1 h with rfl | h
    · rfl
    · exact ih it h
theorem at6_take {w : World} {g n : Nat} {cur : Array Value} {e : TypeId} {us : List Value} (hg : w.heap[g]? = some (.cells cur e (0, 0))) (h : At6 w g (n * 6) us) : cur.toList.take ((n + 1) * 6) = cur.toList.take (n * 6) ++ us := by
  apply List.ext_getElem?
  intro j
  have hcell : ∀ j u, us[j]? = some u → cur[n * 6 + j]? = some u := fun j u hu => by
    have := h.2 j u hu
    rw [cell_of_row w g _ cur e (0, 0) hg] at this
    exact this
  have hsz : (n + 1) * 6 ≤ cur.size := by
    have h50 : 5 < us.length := by rw [h.1]; decide
    have h5 := hcell 5 us[5] (List.getElem?_eq_getElem h50)
    have := (Array.getElem?_eq_some_iff.1 h5).1
    omega
  have hl : (cur.toList.take (n * 6)).length = n * 6 := by rw [List.length_take, Array.length_toList]; omega
  by_cases h1 : j < n * 6
  · rw [List.getElem?_append_left (by omega), List.getElem?_take_of_lt (by omega), List.getElem?_take_of_lt h1]
  · rw [List.getElem?_append_right (by omega), hl]
    by_cases h2 : j < (n + 1) * 6
    · rw [List.getElem?_take_of_lt h2, Array.getElem?_toList]
      have hj : j - n * 6 < us.length := by rw [h.1]; omega
      have := hcell (j - n * 6) us[j - n * 6] (List.getElem?_eq_getElem hj)
      rw [show n * 6 + (j - n * 6) = j by omega] at this
      rw [this, List.getElem?_eq_getElem hj]
    · rw [List.getElem?_eq_none (by rw [List.length_take]; omega), List.getElem?_eq_none (by rw [h.1]; omega)]
/-- Kids that are made, beside one another. -/
theorem fill_kids {w : World} {B g : Nat} {kids : List T} {cur : Array Value} {e : TypeId} {r : List It} (hg : w.heap[g]? = some (.cells cur e (0, 0))) : ∀ (n : Nat) (F : List Nat), n ≤ kids.length → FillL w B (kidIts g kids n ++ r) F →
    ∃ F1 F2 G, F = F1 ++ F2 ∧ FillL w B r F2 ∧ OwnS w B (depths kids + 1) (cur.toList.take (n * 6)) (rows (kids.take n)) G ∧ List.Perm G F1
  | 0, F, _, h => ⟨[], F, [], rfl, h, by simpa [rows] using (OwnS.nil : OwnS w B (depths kids + 1) [] [] []), List.Perm.refl _⟩
  | n + 1, F, hn, h => by
    obtain ⟨us, F1, F2, rfl, h6, ho, hr⟩ := h
    obtain ⟨G1, G2, G, rfl, h1, h2, h3⟩ := fill_kids hg n F2 (by omega) hr
    have hx : kids.getD n zero = kids[n] := by simp [List.getD, show n < kids.length by omega]
    have hd : depth (kids.getD n zero) ≤ depths kids := by
      rw [hx]
      have h4 : depths kids = depths (kids.take (n + 1) ++ kids.drop (n + 1)) := by rw [List.take_append_drop]
      rw [h4, depths_append, List.take_succ_eq_append_getElem (by omega), depths_append]
      simp only [depths]
      omega
    refine ⟨F1 ++ G1, G2, G ++ F1, by rw [List.append_assoc], h1, ?_, ?_⟩
    · rw [at6_take hg h6, List.take_succ_eq_append_getElem (by omega), rows_append]
      have e1 : rows [kids[n]] = row kids[n] := by simp [rows]
      rw [e1, ← hx]
      exact h2.append (ho.deeper (by show depth (kids.getD n zero) + 1 ≤ _; omega))
    · exact (List.perm_append_comm).trans (List.Perm.append_left F1 h3)

theorem own_block {w : World} {B : Nat} {e : TypeId} {size : Nat} {v : Value} {n : Nat} {xs : List Value} (h : w.ownsRow B e size v n xs) {b : Nat} (hb : v.ownBlock = some b) : ∃ cap cur, v = .slice (some ⟨b, 0, none⟩) n cap ∧ B ≤ b ∧ w.heap[b]? = some (.cells cur e (0, 0)) ∧ n ≤ cap ∧ cap ≤ maxLen ∧ cur.size = cap * size ∧ cur.toList.take (n * size) = xs := by
  rcases h.2 with ⟨rfl, _⟩ | ⟨g, cap, cur, rfl, h1, h2, h3, h4, h5, h6⟩
  · cases hb
  · obtain rfl : g = b := by simpa [Value.ownBlock] using hb
    exact ⟨cap, cur, rfl, h1, h2, h3, h4, h5, h6⟩
theorem skeys_eq (ks : List ByteArray) : skeys ks = ks.map C.str := rfl

theorem fin_step {wr wD w' : World} {sb sb' : Option Nat} {g o B : Nat} {k : Int} {fl : Bool} {n : Int} {s : ByteArray} {ks : List ByteArray} {kids : List T} {todo : List It} {vk v2 : Value} {cur : Array Value} {e e1 e2 : TypeId} {xs : List Value}
    (hB : B ≤ wr.heap.size) (hsz : wr.heap.size ≤ wD.heap.size) (hos : wD.os = wr.os) (htp : wD.tape = wr.tape) (hou : wD.output = wr.output)
    (hkeep : ∀ b, b < wr.heap.size → b ≠ g → some b ≠ sb → wD.heap[b]? = wr.heap[b]?)
    (hg : wr.heap[g]? = some (.cells cur e (0, 0))) (hg' : wD.heap[g]? = some (.cells ((cur.setIfInBounds (o + 4) vk).setIfInBounds (o + 5) v2) e (0, 0))) (hgs : some g ≠ sb)
    (c0 : cur[o]? = some (.int .i64 k)) (c1 : cur[o + 1]? = some (.bool fl)) (c2 : cur[o + 2]? = some (.int .i64 n)) (c3 : cur[o + 3]? = some (.string s)) (c5 : o + 5 < cur.size)
    (wk : (Lit.int .i64 k).wf = true) (wn : (Lit.int .i64 n).wf = true) (ws : s.size ≤ maxLen) (wks : ∀ x ∈ ks, x.size ≤ maxLen)
    (hks : wD.ownsRow wr.heap.size e1 1 vk ks.length (scells ks)) (hkb : ∀ b, vk.ownBlock = some b → some b ≠ sb' ∧ v2.ownBlock ≠ some b)
    (hkids : wD.ownsRow wr.heap.size e2 6 v2 kids.length xs) (hb2 : ∀ b, v2.ownBlock = some b → some b ≠ sb')
    (hsb : sb' = sb ∨ ∃ b, sb' = some b ∧ wr.heap.size ≤ b)
    (htodo : ∀ it ∈ todo, it.1 < wr.heap.size ∧ (it.1 = g → it.2.1 + 6 ≤ o ∨ o + 6 ≤ it.2.1))
    {gk : Nat} (hgk : ∀ b, v2.ownBlock = some b → b = gk) (hgk0 : kids ≠ [] → v2.ownBlock = some gk) (h : Fin wD w' sb' (kidIts gk kids kids.length ++ todo) B) : Fin wr w' sb ((g, o, .mk k fl n s ks kids) :: todo) B := by
  obtain ⟨hfr, F, hfill, hnd, hF⟩ := h
  have hglt := heap_lt hg
  have hsbne : ∀ b, b < wr.heap.size → some b ≠ sb → some b ≠ sb' := fun b hb hne e => by
    rcases hsb with rfl | ⟨b', rfl, hb'⟩
    · exact hne e
    · injection e with e; omega
  have hgkge : kids ≠ [] → wr.heap.size ≤ gk := fun hne => (hkids.lt gk (hgk0 hne)).1
  have hitk : ∀ it ∈ kidIts gk kids kids.length, it.1 = gk ∧ wr.heap.size ≤ gk := fun it hit => by
    refine ⟨kidIts_block it hit, hgkge (fun e => ?_)⟩
    rw [e] at hit
    cases hit
  -- the block of the struct itself, at the end
  obtain ⟨cg, hcg, hcgs, hcgj⟩ := hfr.part g _ _ _ hg' (hsbne g hglt hgs)
  have hcell : ∀ j, j < 6 → cg[o + j]? = ((cur.setIfInBounds (o + 4) vk).setIfInBounds (o + 5) v2)[o + j]? := fun j hj => hcgj (o + j) (fun it hit hit1 => by
    rcases List.mem_append.1 hit with hit | hit
    · have := hitk it hit
      omega
    · have h1 := (htodo it hit).2 hit1
      omega)
  -- the kids' block, at the end
  have hkids' : ∃ cur', w'.ownsRow wr.heap.size e2 6 v2 kids.length (cur'.toList.take (kids.length * 6)) ∧ (v2.ownBlock = some gk → w'.heap[gk]? = some (.cells cur' e2 (0, 0))) := by
    cases hv : v2.ownBlock with
    | none =>
      rcases hkids.2 with ⟨rfl, h0⟩ | ⟨g', cap, c, rfl, _⟩
      · refine ⟨#[], ⟨by simp [h0], .inl ⟨rfl, h0⟩⟩, fun h => by cases h⟩
      · cases hv
    | some b =>
      obtain rfl := hgk b hv
      obtain ⟨cap, c, rfl, h1, h2, h3, h4, h5, h6⟩ := own_block hkids hv
      obtain ⟨c', hc', hcs, _⟩ := hfr.part b _ _ _ h2 (hb2 b hv)
      refine ⟨c', ⟨?_, .inr ⟨b, cap, c', rfl, h1, hc', h3, h4, by omega, rfl⟩⟩, fun _ => hc'⟩
      have hl : c'.toList.length = cap * 6 := by rw [Array.length_toList, hcs, h5]
      rw [List.length_take, hl]
      exact Nat.min_eq_left (Nat.mul_le_mul_right _ h3)
  obtain ⟨c2', hk2, hgk2⟩ := hkids'
  have hkeys' : w'.ownsRow wr.heap.size e1 1 vk ks.length (scells ks) := by
    refine ⟨hks.1, ?_⟩
    rcases hks.2 with h0 | ⟨b, cap, c, rfl, h1, h2, h3⟩
    · exact .inl h0
    · refine .inr ⟨b, cap, c, rfl, h1, (hfr.same b (heap_lt h2) (hkb b rfl).1 (fun it hit e => ?_)).trans h2, h3⟩
      rcases List.mem_append.1 hit with hit | hit
      · have h4 := (hitk it hit).1
        rw [h4] at e
        subst e
        exact (hkb _ rfl).2 (hgk0 (fun e => by rw [e] at hit; cases hit))
      · have := (htodo it hit).1
        omega
  -- the kids, made
  obtain ⟨F1, F2, G, rfl, hrest, hkidsO, hperm⟩ : ∃ F1 F2 G, F = F1 ++ F2 ∧ FillL w' B todo F2 ∧ OwnS w' B (depths kids + 1) (c2'.toList.take (kids.length * 6)) (rows kids) G ∧ List.Perm G F1 := by
    by_cases hne : kids = []
    · subst hne
      exact ⟨[], F, [], rfl, hfill, by simpa [rows] using (OwnS.nil : OwnS w' B (depths [] + 1) [] [] []), List.Perm.refl _⟩
    · have := fill_kids (B := B) (kids := kids) (r := todo) (hgk2 (hgk0 hne)) kids.length F (Nat.le_refl _) hfill
      simpa using this
  obtain ⟨Lk, Fk, hFk, rfl, hok⟩ := hkidsO
  obtain ⟨Fkids, hOk, hOkc⟩ := own_of_row hk2 hB (by rw [rows_length]) hFk hok
  obtain ⟨Lk1, Fs1, hFs1, hFs1e, hok1⟩ := ownS_strs (w := w') (B := B) (f := depths kids) ks wks
  obtain ⟨Fkeys, hOs, hOsc⟩ := own_of_row (cells := skeys ks) hkeys' hB (by rw [skeys_length]; omega) hFs1 hok1
  obtain ⟨hnd1, hnd2, hnd12⟩ := List.nodup_append.1 hnd
  have hpnd : Fk.flatten.Nodup := hperm.nodup_iff.2 hnd1
  have hmemk : ∀ x ∈ Fk.flatten, x ∈ F1 := fun x hx => hperm.mem_iff.1 hx
  have hkidsF : Fkids.Nodup ∧ ∀ x ∈ Fkids, (v2.ownBlock = some x ∧ x < wD.heap.size) ∨ x ∈ F1 := by
    rcases hOkc with ⟨_, rfl⟩ | ⟨b, c, rfl, _, _, rfl⟩
    · exact ⟨List.nodup_nil, fun x hx => by cases hx⟩
    · have hb := (hkids.lt b rfl).2
      refine ⟨List.nodup_cons.2 ⟨fun hm => ?_, hpnd⟩, fun x hx => ?_⟩
      · have := hF b (List.mem_append.2 (.inl (hmemk b hm)))
        omega
      · rcases List.mem_cons.1 hx with rfl | hx
        · exact .inl ⟨rfl, hb⟩
        · exact .inr (hmemk x hx)
  have hkeysF : Fkeys.Nodup ∧ ∀ x ∈ Fkeys, vk.ownBlock = some x ∧ x < wD.heap.size := by
    rcases hOsc with ⟨_, rfl⟩ | ⟨b, c, rfl, _, _, rfl⟩
    · exact ⟨List.nodup_nil, fun x hx => by cases hx⟩
    · rw [← hFs1e]
      refine ⟨by simp, fun x hx => ?_⟩
      simp at hx
      subst hx
      exact ⟨rfl, (hks.lt x rfl).2⟩
  obtain ⟨Fx, hFx, hFxn, hFxm⟩ := own_tree (f := depths kids + 1) (k := k) (fl := fl) (n := n) (s := s) (ks := ks) (kids := kids) (v1 := vk) (v2 := v2) wk wn ws hOs hOk hkeysF.1 hkidsF.1 (fun x hx hx2 => by
    obtain ⟨h1, h1'⟩ := hkeysF.2 x hx
    rcases hkidsF.2 x hx2 with ⟨h2, _⟩ | h2
    · exact (hkb x h1).2 h2
    · have := hF x (List.mem_append.2 (.inl h2))
      omega)
  have hFxr : ∀ x ∈ Fx, (wr.heap.size ≤ x ∧ x < wD.heap.size) ∨ x ∈ F1 := fun x hx => by
    rcases hFxm x hx with hx | hx
    · obtain ⟨h1, h1'⟩ := hkeysF.2 x hx
      exact .inl ⟨(hks.lt x h1).1, h1'⟩
    · rcases hkidsF.2 x hx with ⟨h1, h1'⟩ | h1
      · exact .inl ⟨(hkids.lt x h1).1, h1'⟩
      · exact .inr h1
  refine ⟨⟨hfr.os.trans hos, hfr.tape.trans htp, hfr.output.trans hou, Nat.le_trans hsz hfr.size, fun b hb hne hit => ?_, fun b c e' z hc hne => ?_⟩, Fx ++ F2, ⟨_, Fx, F2, rfl, ⟨rfl, fun j u hu => ?_⟩, hFx, hrest⟩, ?_, ?_⟩
  · have hbg : b ≠ g := fun e => hit _ List.mem_cons_self (by rw [e])
    rw [hfr.same b (by omega) (hsbne b hb hne) (fun it hi e => ?_), hkeep b hb hbg hne]
    rcases List.mem_append.1 hi with hi | hi
    · have := hitk it hi
      omega
    · exact hit it (List.mem_cons_of_mem _ hi) e
  · have hb := heap_lt hc
    by_cases hbg : b = g
    · subst hbg
      rw [hg] at hc
      injection hc with hc
      injection hc with hc1 hc2 hc3
      subst hc1 hc2 hc3
      refine ⟨cg, hcg, by rw [hcgs]; simp, fun j hj => ?_⟩
      have hj0 := hj _ List.mem_cons_self rfl
      rw [hcgj j (fun it hi hi1 => ?_), Array.getElem?_setIfInBounds_ne (by have := hj0.2; exact fun e => this e.symm), Array.getElem?_setIfInBounds_ne (by have := hj0.1; exact fun e => this e.symm)]
      rcases List.mem_append.1 hi with hi | hi
      · have := hitk it hi
        omega
      · exact hj it (List.mem_cons_of_mem _ hi) hi1
    · obtain ⟨c', h1, h2, h3⟩ := hfr.part b c e' z ((hkeep b hb hbg hne).trans hc) (hsbne b hb hne)
      refine ⟨c', h1, h2, fun j hj => h3 j (fun it hi hi1 => ?_)⟩
      rcases List.mem_append.1 hi with hi | hi
      · have := hitk it hi
        omega
      · exact hj it (List.mem_cons_of_mem _ hi) hi1
  · have hj : j < 6 := (List.getElem?_eq_some_iff.1 hu).1
    show w'.cell? ⟨g, o + j, none⟩ = some u
    rw [cell_of_row w' g (o + j) cg e (0, 0) hcg, hcell j hj]
    match j, hj, hu with
    | 0, _, hu => rw [Array.getElem?_setIfInBounds_ne (by omega), Array.getElem?_setIfInBounds_ne (by omega)]; simpa [c0] using hu
    | 1, _, hu => rw [Array.getElem?_setIfInBounds_ne (by omega), Array.getElem?_setIfInBounds_ne (by omega), c1]; exact hu
    | 2, _, hu => rw [Array.getElem?_setIfInBounds_ne (by omega), Array.getElem?_setIfInBounds_ne (by omega), c2]; exact hu
    | 3, _, hu => rw [Array.getElem?_setIfInBounds_ne (by omega), Array.getElem?_setIfInBounds_ne (by omega), c3]; exact hu
    | 4, _, hu =>
      rw [Array.getElem?_setIfInBounds_ne (by omega), Array.getElem?_setIfInBounds_self_of_lt (by omega)]
      exact hu
    | 5, _, hu =>
      rw [Array.getElem?_setIfInBounds_self_of_lt (by simp; omega)]
      exact hu
  · refine List.nodup_append.2 ⟨hFxn, hnd2, fun a ha b hb e => ?_⟩
    rcases hFxr a ha with h1 | h1
    · have := hF b (List.mem_append.2 (.inr hb))
      omega
    · exact hnd12 a h1 b hb e
  · intro x hx
    rcases List.mem_append.1 hx with hx | hx
    · rcases hFxr x hx with h1 | h1
      · exact h1.1
      · have := hF x (List.mem_append.2 (.inl h1))
        omega
    · have := hF x (List.mem_append.2 (.inr hx))
      omega
end Go.Proofs.Ytmldigfghiofkaa.tree
