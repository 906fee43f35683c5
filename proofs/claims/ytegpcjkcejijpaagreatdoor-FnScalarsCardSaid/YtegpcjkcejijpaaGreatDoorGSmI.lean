/- Merged: Fill CpM SmM TrSameI. -/
import Derived.Test.YtegpcjkcejijpaaGreatDoorGTree
import Derived.WalkSmall
import Derived.RangeFuncBox
import Derived.Test.YtegpcjkcejijpaaGreatDoorGFld
import Derived.Test.YtegpcjkcejijpaaGreatDoorTrSameS
import Derived.Deep.LoopGhost
import Derived.Deep.WholeRow
import Derived.WalkMore
import Derived.StillTailTactics
import Derived.Test.YtegpcjkcejijpaaGreatDoorRows
import Derived.ProofKit
import Derived.OpenShut
namespace Go.Proofs.YtegpcjkcejijpaaGreatDoor.tree
open Go Go.RowKit
set_option linter.unusedVariables false

abbrev It := Nat × Nat × T
/-- Six cells at a place. -/
def At6 (w : World) (g o : Nat) (us : List Value) : Prop := us.length = 6 ∧ ∀ j u, us[j]? = some u → w.cell? ⟨g, o + j, none⟩ = some u
/-- All are made, in blocks F of their own. -/
def FillL (w : World) (B : Nat) : List It → List Nat → Prop
 | [], F => F = []
 | it :: r, F => ∃ us F1 F2, F = F1 ++ F2 ∧ At6 w it.1 it.2.1 us ∧ OwnS w B (depth it.2.2 + 1) us (row it.2.2) F1 ∧ FillL w B r F2
structure Fr (w w' : World) (sb : Option Nat) (todo : List It) : Prop where
 os : w'.os = w.os
 tape : w'.tape = w.tape
 output : w'.output = w.output
 size : w.heap.size ≤ w'.heap.size
 same : ∀ k, k < w.heap.size → some k ≠ sb → (∀ it ∈ todo, it.1 ≠ k) → w'.heap[k]? = w.heap[k]?
 part : ∀ k cur e z, w.heap[k]? = some (.cells cur e z) → some k ≠ sb → ∃ cur', w'.heap[k]? = some (.cells cur' e z) ∧ cur'.size = cur.size ∧ ∀ j, (∀ it ∈ todo, it.1 = k → j ≠ it.2.1 + 4 ∧ j ≠ it.2.1 + 5) → cur'[j]? = cur[j]?
def Fin (w w' : World) (sb : Option Nat) (todo : List It) (B : Nat) : Prop := Fr w w' sb todo ∧ ∃ F, FillL w' B todo F ∧ F.Nodup ∧ ∀ x ∈ F, w.heap.size ≤ x
theorem Fr.refl (w : World) (sb : Option Nat) (todo : List It) : Fr w w sb todo := ⟨rfl, rfl, rfl, Nat.le_refl _, fun _ _ _ _ => rfl, fun k cur e z h _ => ⟨cur, h, rfl, fun _ _ => rfl⟩⟩
theorem Fin.nil (w : World) (sb : Option Nat) (B : Nat) : Fin w w sb [] B := ⟨Fr.refl _ _ _, [], rfl, List.nodup_nil, fun x hx => by cases hx⟩

/-- The first n kids at block g, the last one first. -/
def kidIts (g : Nat) (kids : List T) : Nat → List It
 | 0 => []
 | n + 1 => (g, n * 6, kids.getD n zero) :: kidIts g kids n
theorem kidIts_block {g : Nat} {kids : List T} {n : Nat} : ∀ it ∈ kidIts g kids n, it.1 = g := by
 induction n with
 | zero => intro it h; cases h
 | succ n ih =>
  intro it h
  rcases List.mem_cons.1 h with rfl | h
  ·rfl
  ·exact ih it h
theorem at6_take {w : World} {g n : Nat} {cur : Array Value} {e : TypeId} {us : List Value} (hg : w.heap[g]? = some (.cells cur e (0, 0))) (h : At6 w g (n * 6) us) : cur.toList.take ((n + 1) * 6) = cur.toList.take (n * 6) ++ us := by
 apply List.ext_getElem?
 intro j
 have hcell : ∀ j u, us[j]? = some u → cur[n * 6 + j]? = some u := fun j u hu => by
  have := h.2 j u hu
  rw [cell_of_row w g _ cur e (0, 0) hg] at this
  exact this
 have hsz : (n + 1) * 6 ≤ cur.size := by
  have h50 : 5 < us.length := by rw [h.1]; decide
  have h5 := hcell 5 us[5] (List.getElem?_eq_getElem h50)
  have := (Array.getElem?_eq_some_iff.1 h5).1
  omega
 have hl : (cur.toList.take (n * 6)).length = n * 6 := by rw [List.length_take, Array.length_toList]; omega
 by_cases h1 : j < n * 6
 ·rw [List.getElem?_append_left (by omega), List.getElem?_take_of_lt (by omega), List.getElem?_take_of_lt h1]
 ·rw [List.getElem?_append_right (by omega), hl]
  by_cases h2 : j < (n + 1) * 6
  ·rw [List.getElem?_take_of_lt h2, Array.getElem?_toList]
   have hj : j - n * 6 < us.length := by rw [h.1]; omega
   have := hcell (j - n * 6) us[j - n * 6] (List.getElem?_eq_getElem hj)
   rw [show n * 6 + (j - n * 6) = j by omega] at this
   rw [this, List.getElem?_eq_getElem hj]
  ·rw [List.getElem?_eq_none (by rw [List.length_take]; omega), List.getElem?_eq_none (by rw [h.1]; omega)]
/-- Kids that are made, beside one another. -/
theorem fill_kids {w : World} {B g : Nat} {kids : List T} {cur : Array Value} {e : TypeId} {r : List It} (hg : w.heap[g]? = some (.cells cur e (0, 0))) : ∀ (n : Nat) (F : List Nat), n ≤ kids.length → FillL w B (kidIts g kids n ++ r) F →
  ∃ F1 F2 G, F = F1 ++ F2 ∧ FillL w B r F2 ∧ OwnS w B (depths kids + 1) (cur.toList.take (n * 6)) (rows (kids.take n)) G ∧ List.Perm G F1
 | 0, F, _, h => ⟨[], F, [], rfl, h, by simpa [rows] using (OwnS.nil : OwnS w B (depths kids + 1) [] [] []), List.Perm.refl _⟩
 | n + 1, F, hn, h => by
  obtain ⟨us, F1, F2, rfl, h6, ho, hr⟩ := h
  obtain ⟨G1, G2, G, rfl, h1, h2, h3⟩ := fill_kids hg n F2 (by omega) hr
  have hx : kids.getD n zero = kids[n] := by simp [List.getD, show n < kids.length by omega]
  have hd : depth (kids.getD n zero) ≤ depths kids := by
   rw [hx]
   have h4 : depths kids = depths (kids.take (n + 1) ++ kids.drop (n + 1)) := by rw [List.take_append_drop]
   rw [h4, depths_append, List.take_succ_eq_append_getElem (by omega), depths_append]
   simp only [depths]
   omega
  refine ⟨F1 ++ G1, G2, G ++ F1, by rw [List.append_assoc], h1, ?_, ?_⟩
  ·rw [at6_take hg h6, List.take_succ_eq_append_getElem (by omega), rows_append]
   have e1 : rows [kids[n]] = row kids[n] := by simp [rows]
   rw [e1, ← hx]
   exact h2.append (ho.deeper (by show depth (kids.getD n zero) + 1 ≤ _; omega))
  ·exact (List.perm_append_comm).trans (List.Perm.append_left F1 h3)

theorem own_block {w : World} {B : Nat} {e : TypeId} {size : Nat} {v : Value} {n : Nat} {xs : List Value} (h : w.ownsRow B e size v n xs) {b : Nat} (hb : v.ownBlock = some b) : ∃ cap cur, v = .slice (some ⟨b, 0, none⟩) n cap ∧ B ≤ b ∧ w.heap[b]? = some (.cells cur e (0, 0)) ∧ n ≤ cap ∧ cap ≤ maxLen ∧ cur.size = cap * size ∧ cur.toList.take (n * size) = xs := by
 rcases h.2 with ⟨rfl, _⟩ | ⟨g, cap, cur, rfl, h1, h2, h3, h4, h5, h6⟩
 ·cases hb
 ·obtain rfl : g = b := by simpa [Value.ownBlock] using hb
  exact ⟨cap, cur, rfl, h1, h2, h3, h4, h5, h6⟩
theorem skeys_eq (ks : List ByteArray) : skeys ks = ks.map C.str := rfl

theorem fin_step {wr wD w' : World} {sb sb' : Option Nat} {g o B : Nat} {k : Int} {fl : Bool} {n : Int} {s : ByteArray} {ks : List ByteArray} {kids : List T} {todo : List It} {vk v2 : Value} {cur : Array Value} {e e1 e2 : TypeId} {xs : List Value}
  (hB : B ≤ wr.heap.size) (hsz : wr.heap.size ≤ wD.heap.size) (hos : wD.os = wr.os) (htp : wD.tape = wr.tape) (hou : wD.output = wr.output)
  (hkeep : ∀ b, b < wr.heap.size → b ≠ g → some b ≠ sb → wD.heap[b]? = wr.heap[b]?)
  (hg : wr.heap[g]? = some (.cells cur e (0, 0))) (hg' : wD.heap[g]? = some (.cells ((cur.setIfInBounds (o + 4) vk).setIfInBounds (o + 5) v2) e (0, 0))) (hgs : some g ≠ sb)
  (c0 : cur[o]? = some (.int .i64 k)) (c1 : cur[o + 1]? = some (.bool fl)) (c2 : cur[o + 2]? = some (.int .i64 n)) (c3 : cur[o + 3]? = some (.string s)) (c5 : o + 5 < cur.size)
  (wk : (Lit.int .i64 k).wf = true) (wn : (Lit.int .i64 n).wf = true) (ws : s.size ≤ maxLen) (wks : ∀ x ∈ ks, x.size ≤ maxLen)
  (hks : wD.ownsRow wr.heap.size e1 1 vk ks.length (scells ks)) (hkb : ∀ b, vk.ownBlock = some b → some b ≠ sb' ∧ v2.ownBlock ≠ some b)
  (hkids : wD.ownsRow wr.heap.size e2 6 v2 kids.length xs) (hb2 : ∀ b, v2.ownBlock = some b → some b ≠ sb')
  (hsb : sb' = sb ∨ ∃ b, sb' = some b ∧ wr.heap.size ≤ b)
  (htodo : ∀ it ∈ todo, it.1 < wr.heap.size ∧ (it.1 = g → it.2.1 + 6 ≤ o ∨ o + 6 ≤ it.2.1))
  {gk : Nat} (hgk : ∀ b, v2.ownBlock = some b → b = gk) (hgk0 : kids ≠ [] → v2.ownBlock = some gk) (h : Fin wD w' sb' (kidIts gk kids kids.length ++ todo) B) : Fin wr w' sb ((g, o, .mk k fl n s ks kids) :: todo) B := by
 obtain ⟨hfr, F, hfill, hnd, hF⟩ := h
 have hglt := heap_lt hg
 have hsbne : ∀ b, b < wr.heap.size → some b ≠ sb → some b ≠ sb' := fun b hb hne e => by
  rcases hsb with rfl | ⟨b', rfl, hb'⟩
  ·exact hne e
  ·injection e with e; omega
 have hgkge : kids ≠ [] → wr.heap.size ≤ gk := fun hne => (hkids.lt gk (hgk0 hne)).1
 have hitk : ∀ it ∈ kidIts gk kids kids.length, it.1 = gk ∧ wr.heap.size ≤ gk := fun it hit => by
  refine ⟨kidIts_block it hit, hgkge (fun e => ?_)⟩
  rw [e] at hit
  cases hit
 -- the block of the struct itself, at the end
 obtain ⟨cg, hcg, hcgs, hcgj⟩ := hfr.part g _ _ _ hg' (hsbne g hglt hgs)
 have hcell : ∀ j, j < 6 → cg[o + j]? = ((cur.setIfInBounds (o + 4) vk).setIfInBounds (o + 5) v2)[o + j]? := fun j hj => hcgj (o + j) (fun it hit hit1 => by
  rcases List.mem_append.1 hit with hit | hit
  ·have := hitk it hit
   omega
  ·have h1 := (htodo it hit).2 hit1
   omega)
 -- the kids' block, at the end
 have hkids' : ∃ cur', w'.ownsRow wr.heap.size e2 6 v2 kids.length (cur'.toList.take (kids.length * 6)) ∧ (v2.ownBlock = some gk → w'.heap[gk]? = some (.cells cur' e2 (0, 0))) := by
  cases hv : v2.ownBlock with
  | none =>
   rcases hkids.2 with ⟨rfl, h0⟩ | ⟨g', cap, c, rfl, _⟩
   ·refine ⟨#[], ⟨by simp [h0], .inl ⟨rfl, h0⟩⟩, fun h => by cases h⟩
   ·cases hv
  | some b =>
   obtain rfl := hgk b hv
   obtain ⟨cap, c, rfl, h1, h2, h3, h4, h5, h6⟩ := own_block hkids hv
   obtain ⟨c', hc', hcs, _⟩ := hfr.part b _ _ _ h2 (hb2 b hv)
   refine ⟨c', ⟨?_, .inr ⟨b, cap, c', rfl, h1, hc', h3, h4, by omega, rfl⟩⟩, fun _ => hc'⟩
   have hl : c'.toList.length = cap * 6 := by rw [Array.length_toList, hcs, h5]
   rw [List.length_take, hl]
   exact Nat.min_eq_left (Nat.mul_le_mul_right _ h3)
 obtain ⟨c2', hk2, hgk2⟩ := hkids'
 have hkeys' : w'.ownsRow wr.heap.size e1 1 vk ks.length (scells ks) := by
  refine ⟨hks.1, ?_⟩
  rcases hks.2 with h0 | ⟨b, cap, c, rfl, h1, h2, h3⟩
  ·exact .inl h0
  ·refine .inr ⟨b, cap, c, rfl, h1, (hfr.same b (heap_lt h2) (hkb b rfl).1 (fun it hit e => ?_)).trans h2, h3⟩
   rcases List.mem_append.1 hit with hit | hit
   ·have h4 := (hitk it hit).1
    rw [h4] at e
    subst e
    exact (hkb _ rfl).2 (hgk0 (fun e => by rw [e] at hit; cases hit))
   ·have := (htodo it hit).1
    omega
 -- the kids, made
 obtain ⟨F1, F2, G, rfl, hrest, hkidsO, hperm⟩ : ∃ F1 F2 G, F = F1 ++ F2 ∧ FillL w' B todo F2 ∧ OwnS w' B (depths kids + 1) (c2'.toList.take (kids.length * 6)) (rows kids) G ∧ List.Perm G F1 := by
  by_cases hne : kids = []
  ·subst hne
   exact ⟨[], F, [], rfl, hfill, by simpa [rows] using (OwnS.nil : OwnS w' B (depths [] + 1) [] [] []), List.Perm.refl _⟩
  ·have := fill_kids (B := B) (kids := kids) (r := todo) (hgk2 (hgk0 hne)) kids.length F (Nat.le_refl _) hfill
   simpa using this
 obtain ⟨Lk, Fk, hFk, rfl, hok⟩ := hkidsO
 obtain ⟨Fkids, hOk, hOkc⟩ := own_of_row hk2 hB (by rw [rows_length]) hFk hok
 obtain ⟨Lk1, Fs1, hFs1, hFs1e, hok1⟩ := ownS_strs (w := w') (B := B) (f := depths kids) ks wks
 obtain ⟨Fkeys, hOs, hOsc⟩ := own_of_row (cells := skeys ks) hkeys' hB (by rw [skeys_length]; omega) hFs1 hok1
 obtain ⟨hnd1, hnd2, hnd12⟩ := List.nodup_append.1 hnd
 have hpnd : Fk.flatten.Nodup := hperm.nodup_iff.2 hnd1
 have hmemk : ∀ x ∈ Fk.flatten, x ∈ F1 := fun x hx => hperm.mem_iff.1 hx
 have hkidsF : Fkids.Nodup ∧ ∀ x ∈ Fkids, (v2.ownBlock = some x ∧ x < wD.heap.size) ∨ x ∈ F1 := by
  rcases hOkc with ⟨_, rfl⟩ | ⟨b, c, rfl, _, _, rfl⟩
  ·exact ⟨List.nodup_nil, fun x hx => by cases hx⟩
  ·have hb := (hkids.lt b rfl).2
   refine ⟨List.nodup_cons.2 ⟨fun hm => ?_, hpnd⟩, fun x hx => ?_⟩
   ·have := hF b (List.mem_append.2 (.inl (hmemk b hm)))
    omega
   ·rcases List.mem_cons.1 hx with rfl | hx
    ·exact .inl ⟨rfl, hb⟩
    ·exact .inr (hmemk x hx)
 have hkeysF : Fkeys.Nodup ∧ ∀ x ∈ Fkeys, vk.ownBlock = some x ∧ x < wD.heap.size := by
  rcases hOsc with ⟨_, rfl⟩ | ⟨b, c, rfl, _, _, rfl⟩
  ·exact ⟨List.nodup_nil, fun x hx => by cases hx⟩
  ·rw [← hFs1e]
   refine ⟨by simp, fun x hx => ?_⟩
   simp at hx
   subst hx
   exact ⟨rfl, (hks.lt x rfl).2⟩
 obtain ⟨Fx, hFx, hFxn, hFxm⟩ := own_tree (f := depths kids + 1) (k := k) (fl := fl) (n := n) (s := s) (ks := ks) (kids := kids) (v1 := vk) (v2 := v2) wk wn ws hOs hOk hkeysF.1 hkidsF.1 (fun x hx hx2 => by
  obtain ⟨h1, h1'⟩ := hkeysF.2 x hx
  rcases hkidsF.2 x hx2 with ⟨h2, _⟩ | h2
  ·exact (hkb x h1).2 h2
  ·have := hF x (List.mem_append.2 (.inl h2))
   omega)
 have hFxr : ∀ x ∈ Fx, (wr.heap.size ≤ x ∧ x < wD.heap.size) ∨ x ∈ F1 := fun x hx => by
  rcases hFxm x hx with hx | hx
  ·obtain ⟨h1, h1'⟩ := hkeysF.2 x hx
   exact .inl ⟨(hks.lt x h1).1, h1'⟩
  ·rcases hkidsF.2 x hx with ⟨h1, h1'⟩ | h1
   ·exact .inl ⟨(hkids.lt x h1).1, h1'⟩
   ·exact .inr h1
 refine ⟨⟨hfr.os.trans hos, hfr.tape.trans htp, hfr.output.trans hou, Nat.le_trans hsz hfr.size, fun b hb hne hit => ?_, fun b c e' z hc hne => ?_⟩, Fx ++ F2, ⟨_, Fx, F2, rfl, ⟨rfl, fun j u hu => ?_⟩, hFx, hrest⟩, ?_, ?_⟩
 ·have hbg : b ≠ g := fun e => hit _ List.mem_cons_self (by rw [e])
  rw [hfr.same b (by omega) (hsbne b hb hne) (fun it hi e => ?_), hkeep b hb hbg hne]
  rcases List.mem_append.1 hi with hi | hi
  ·have := hitk it hi
   omega
  ·exact hit it (List.mem_cons_of_mem _ hi) e
 ·have hb := heap_lt hc
  by_cases hbg : b = g
  ·subst hbg
   rw [hg] at hc
   injection hc with hc
   injection hc with hc1 hc2 hc3
   subst hc1 hc2 hc3
   refine ⟨cg, hcg, by rw [hcgs]; simp, fun j hj => ?_⟩
   have hj0 := hj _ List.mem_cons_self rfl
   rw [hcgj j (fun it hi hi1 => ?_), Array.getElem?_setIfInBounds_ne (by have := hj0.2; exact fun e => this e.symm), Array.getElem?_setIfInBounds_ne (by have := hj0.1; exact fun e => this e.symm)]
   rcases List.mem_append.1 hi with hi | hi
   ·have := hitk it hi
    omega
   ·exact hj it (List.mem_cons_of_mem _ hi) hi1
  ·obtain ⟨c', h1, h2, h3⟩ := hfr.part b c e' z ((hkeep b hb hbg hne).trans hc) (hsbne b hb hne)
   refine ⟨c', h1, h2, fun j hj => h3 j (fun it hi hi1 => ?_)⟩
   rcases List.mem_append.1 hi with hi | hi
   ·have := hitk it hi
    omega
   ·exact hj it (List.mem_cons_of_mem _ hi) hi1
 ·have hj : j < 6 := (List.getElem?_eq_some_iff.1 hu).1
  show w'.cell? ⟨g, o + j, none⟩ = some u
  rw [cell_of_row w' g (o + j) cg e (0, 0) hcg, hcell j hj]
  match j, hj, hu with
  | 0, _, hu => rw [Array.getElem?_setIfInBounds_ne (by omega), Array.getElem?_setIfInBounds_ne (by omega)]; simpa [c0] using hu
  | 1, _, hu => rw [Array.getElem?_setIfInBounds_ne (by omega), Array.getElem?_setIfInBounds_ne (by omega), c1]; exact hu
  | 2, _, hu => rw [Array.getElem?_setIfInBounds_ne (by omega), Array.getElem?_setIfInBounds_ne (by omega), c2]; exact hu
  | 3, _, hu => rw [Array.getElem?_setIfInBounds_ne (by omega), Array.getElem?_setIfInBounds_ne (by omega), c3]; exact hu
  | 4, _, hu =>
   rw [Array.getElem?_setIfInBounds_ne (by omega), Array.getElem?_setIfInBounds_self_of_lt (by omega)]
   exact hu
  | 5, _, hu =>
   rw [Array.getElem?_setIfInBounds_self_of_lt (by simp; omega)]
   exact hu
 ·refine List.nodup_append.2 ⟨hFxn, hnd2, fun a ha b hb e => ?_⟩
  rcases hFxr a ha with h1 | h1
  ·have := hF b (List.mem_append.2 (.inr hb))
   omega
  ·exact hnd12 a h1 b hb e
 ·intro x hx
  rcases List.mem_append.1 hx with hx | hx
  ·rcases hFxr x hx with h1 | h1
   ·exact h1.1
   ·have := hF x (List.mem_append.2 (.inl h1))
    omega
  ·have := hF x (List.mem_append.2 (.inr hx))
   omega
end Go.Proofs.YtegpcjkcejijpaaGreatDoor.tree
namespace Go.Proofs.YtegpcjkcejijpaaGreatDoor
open Go Go.RowKit
set_option linter.unusedVariables false

/-- The slice with head A, length n reads as the cells xs (size cells an element). -/
def RdN (w : World) (A : Option Addr) (n size : Nat) (xs : List Value) : Prop :=
 xs.length = n * size ∧ (0 < n → ∃ g o, A = some ⟨g, o, none⟩ ∧ g < w.heap.size ∧ ∀ j, j < n * size → ∀ u, xs[j]? = some u → w.cell? ⟨g, o + j, none⟩ = some u)
theorem RdN.below {w w' : World} {A : Option Addr} {n size : Nat} {xs : List Value} (h : RdN w A n size xs) (hb : Below w.heap.size w w') : RdN w' A n size xs := by
 refine ⟨h.1, fun hn => ?_⟩
 obtain ⟨g, o, rfl, hg, hc⟩ := h.2 hn
 exact ⟨g, o, rfl, Nat.lt_of_lt_of_le hg hb.size, fun j hj u hu => (World.cell?_of_block (hb.block g hg)).trans (hc j hj u hu)⟩
theorem lies_cells {w : World} {f : Nat} {v : Value} {size n : Nat} {cells : List C} (h : Lies w f v (.sl size n cells)) :
  ∃ A c xs, v = .slice A n c ∧ n ≤ c ∧ c ≤ maxLen ∧ RdN w A n size xs ∧ LiesS w f xs cells := by
 obtain ⟨A, c, rfl, h1, h2, h3, f', rfl, h4⟩ := h.sl
 by_cases hn : 0 < n
 ·obtain ⟨g, o, rfl, hg, hc⟩ := h4 hn
  refine ⟨_, c, (List.range (n * size)).map fun j => (w.cell? ⟨g, o + j, none⟩).getD undef, rfl, h1, h2, ⟨by simp, fun _ => ⟨g, o, rfl, hg, fun j hj u hu => ?_⟩⟩, by simp [h3], fun m u d hu hd => ?_⟩
  ·have hj' : j < cells.length := by omega
   obtain ⟨u', hu', _⟩ := hc j cells[j] (List.getElem?_eq_getElem hj')
   simp [hj, hu'] at hu
   rw [hu', ← hu]
  ·obtain ⟨u', hu', hl⟩ := hc m d hd
   have hm : m < n * size := by have := (List.getElem?_eq_some_iff.1 hd).1; omega
   simp [hm, hu'] at hu
   rw [← hu]
   exact hl.deeper (Nat.le_succ f')
 ·obtain rfl : n = 0 := by omega
  have : cells = [] := List.eq_nil_of_length_eq_zero (by simpa using h3)
  subst this
  exact ⟨A, c, [], rfl, h1, h2, ⟨by simp, fun h => absurd h (by omega)⟩, LiesS.nil⟩
/-- append(v, x...) of a slice x that reads, nil or not. -/
theorem wpList_append_rdN {P : Program} {w : World} {ops : Array Oper} {rest : List Oper} {o : Oper} {a : Act} {Q : Exit → Act → World → Prop} (hgd : o.guard = none) (s x : Operand) (t : TypeId)
  (ho : o.op = .call { callee := .builtin .append, args := #[s, x], argTypes := #[t, t] })
  (base : Nat) (e : TypeId) (i : TypeInfo) (z : Value) (size bytes : Nat) (ht : P.underlying t = some (.slice e)) (hi : P.info? e = some i) (hz : i.zero = some z)
  (hsize : i.size = size) (hby : i.bytes = bytes) (hzs : z.cells.size = size) (h0 : 0 < size)
  (v : Value) (n : Nat) (xs : List Value) (hs : a.eval s = v) (hown : w.ownsRow base e size v n xs)
  (A : Option Addr) (m c : Nat) (news : List Value) (hx : a.eval x = .slice A m c) (hr : RdN w A m size news) (h1 : ∀ u ∈ news, u.oneCell' = true)
  (h63 : n + m ≤ maxLen) (hbytes : (n + m) * bytes ≤ 140737488355328) (hbase : base ≤ w.heap.size)
  (h : ∀ v' w', w'.ownsRow base e size v' (n + m) (xs ++ news) → w.grownBy w' v.ownBlock → (v'.ownBlock = v.ownBlock ∨ v'.ownBlock = some w.heap.size) → wpList P ops Q rest (a.put o.dst v') w') :
  wpList P ops Q (o :: rest) a w := by
 refine wpList_plain hgd fun K hK => ?_
 have hrun : ∃ v' w', (Builtin.append_ #[t, t] o.type #[v, .slice A m c]).run P w = .ok v' w' ∧ w'.ownsRow base e size v' (n + m) (xs ++ news) ∧ w.grownBy w' v.ownBlock ∧ (v'.ownBlock = v.ownBlock ∨ v'.ownBlock = some w.heap.size) := by
  cases A with
  | none =>
   have hm : m = 0 := by
    rcases Nat.eq_zero_or_pos m with h | h
    ·exact h
    ·obtain ⟨g, o, hg, _⟩ := hr.2 h
     cases hg
   subst hm
   have hn : news = [] := List.eq_nil_of_length_eq_zero (by simpa using hr.1)
   subst hn
   refine ⟨v, w, ?_, by simpa using hown, World.grownBy.refl _ _, .inl rfl⟩
   rcases hown.2 with ⟨rfl, rfl⟩ | ⟨g, cap, cur, rfl, _, _, hnc, _⟩
   ·simp [Builtin.append_, run_underlying ht, sizeOf, typeInfo, hi, Builtin.lenOf, Builtin.firstCells]
   ·simp [Builtin.append_, run_underlying ht, sizeOf, typeInfo, hi, Builtin.lenOf, Builtin.firstCells, hnc, storeCells]
  | some ad =>
   obtain ⟨v', w', r0, r1, r2, _, r3⟩ := run_append_own_at (P := P) w base t o.type e i z size bytes ht hi hz hsize hby hzs h0 v n xs hown ad m c news hr.1 (fun j u hu => by
    have hj : j < m * size := by have := (List.getElem?_eq_some_iff.1 hu).1; have := hr.1; omega
    have hm : 0 < m := by
     rcases Nat.eq_zero_or_pos m with h | h
     ·subst h; omega
     ·exact h
    obtain ⟨g, o', hg, _, hc⟩ := hr.2 hm
    injection hg with hg
    subst hg
    rw [Addr.add_lit]
    exact hc j hj u hu) h1 h63 hbytes hbase
   exact ⟨v', w', r0, r1, r2, r3⟩
 obtain ⟨v', w', hr', h2, h3, h5⟩ := hrun
 unfold Oper.wp execOp
 simp only [ho, resolve, invoke, builtin, Sem.run_bind, Sem.run_pure, Result.andThen_ok, List.map_toArray, List.map_cons, List.map_nil, hs, hx, hr']
 exact hK _ _ (h v' w' h2 h3 h5)
theorem LiesS.ones {w : World} {f : Nat} {vs : List Value} {ds : List C} (h : LiesS w f vs ds) : ∀ u ∈ vs, u.oneCell' = true := by
 intro v hv
 obtain ⟨m, hm, rfl⟩ := List.getElem_of_mem hv
 have h2 := h.2 m _ _ (List.getElem?_eq_getElem hm) (List.getElem?_eq_getElem (by have := h.1; omega))
 generalize vs[m] = v at h2
 generalize ds[m]'(by have := h.1; omega) = d at h2
 cases f with
 | zero => exact h2.elim
 | succ f =>
  cases d with
  | int k n => obtain ⟨rfl, _⟩ := h2; rfl
  | bool b => obtain rfl := h2; rfl
  | str s => obtain ⟨rfl, _⟩ := h2; rfl
  | sl size n cells => obtain ⟨A, c, rfl, _⟩ := h2; rfl

theorem own_base {w : World} {B B' : Nat} {e : TypeId} {size : Nat} {v : Value} {n : Nat} {xs : List Value} (h : w.ownsRow B e size v n xs) (hb : B' ≤ B) : w.ownsRow B' e size v n xs := by
 refine ⟨h.1, ?_⟩
 rcases h.2 with h0 | ⟨g, cap, cur, h1, h2, h3⟩
 ·exact .inl h0
 ·exact .inr ⟨g, cap, cur, h1, by omega, h3⟩
namespace tree
/-- A place as a pointer. -/
def ptr (it : It) : Value := .pointer (some ⟨it.1, it.2.1, none⟩)
def sizesI : List It → Nat
 | [] => 0
 | it :: r => size it.2.2 + sizesI r
theorem sizesI_append : ∀ a b : List It, sizesI (a ++ b) = sizesI a + sizesI b
 | [], b => by simp [sizesI]
 | x :: r, b => by rw [List.cons_append, sizesI, sizesI, sizesI_append r b]; omega
theorem size_pos (t : T) : 1 ≤ size t := by cases t; rw [size]; omega
theorem sizesI_length : ∀ a : List It, a.length ≤ sizesI a
 | [] => by simp [sizesI]
 | x :: r => by rw [sizesI, List.length_cons]; have := sizesI_length r; have := size_pos x.2.2; omega
theorem sizesI_kids (g : Nat) (kids : List T) : ∀ n, n ≤ kids.length → sizesI (kidIts g kids n) = sizes (kids.take n)
 | 0, _ => by simp [kidIts, sizesI, sizes]
 | n + 1, h => by
  have hx : kids.getD n zero = kids[n] := by simp [List.getD, show n < kids.length by omega]
  rw [kidIts, sizesI, sizesI_kids g kids n (by omega), List.take_succ_eq_append_getElem (by omega), sizes_append, hx]
  simp only [sizes]
  omega
theorem kidIts_length (g : Nat) (kids : List T) : ∀ n, (kidIts g kids n).length = n
 | 0 => rfl
 | n + 1 => by rw [kidIts, List.length_cons, kidIts_length g kids n]
def Apart (a b : It) : Prop := a.1 = b.1 → a.2.1 + 6 ≤ b.2.1 ∨ b.2.1 + 6 ≤ a.2.1
/-- The place holds the tree as it lay when the call began. -/
def Holds (w wr : World) (f : Nat) (it : It) : Prop := ∃ cur e us, wr.heap[it.1]? = some (.cells cur e (0, 0)) ∧ us.length = 6 ∧ (∀ j u, us[j]? = some u → cur[it.2.1 + j]? = some u) ∧ LiesS w f us (row it.2.2)

structure CpS (w w1 : World) (f : Nat) (t : T) (sb1 : Option Nat) (eP : TypeId) (resT : TypeId) (zr : Array Value) (r : Value) (wr : World) (todo : List It) : Prop where
 own : wr.ownsRow (w.heap.size + 2) eP 1 r todo.length ((todo.map ptr).reverse)
 it : ∀ it ∈ todo, w.heap.size ≤ it.1 ∧ it.1 ≠ w.heap.size + 1 ∧ r.ownBlock ≠ some it.1 ∧ Holds w wr f it
 apart : todo.Pairwise Apart
 bel : Below w.heap.size w wr
 res : wr.heap[w.heap.size + 1]? = some (.cells zr resT (0, 0))
 bd : sizesI todo ≤ size t
 sz : w.heap.size + 3 ≤ wr.heap.size
 wt : ∀ it ∈ todo, weight it.2.2 ≤ 1048576
 wand : ∀ w', Fin wr w' r.ownBlock todo w.heap.size → Fin w1 w' sb1 [(w.heap.size, 0, t)] w.heap.size

/-- While the kids are pushed. -/
structure InS (w : World) (W6 : World) (gs gk : Nat) (kids : List T) (todo : List It) (eP : TypeId) (j : Nat) (r : Value) (wD : World) : Prop where
 own : wD.ownsRow (w.heap.size + 2) eP 1 r (j + todo.length) (((kidIts gk kids j ++ todo).map ptr).reverse)
 os : wD.os = W6.os
 tape : wD.tape = W6.tape
 output : wD.output = W6.output
 size : W6.heap.size ≤ wD.heap.size
 keep : ∀ b, b < W6.heap.size → b ≠ gs → wD.heap[b]? = W6.heap[b]?
 ob : r.ownBlock = some gs ∨ ∃ b, r.ownBlock = some b ∧ W6.heap.size ≤ b
end tree
end Go.Proofs.YtegpcjkcejijpaaGreatDoor
namespace Go.Proofs.YtegpcjkcejijpaaGreatDoor.tree
open Go Go.RowKit
set_option linter.unusedVariables false

abbrev Pr := It × It
def pcells (l : List Pr) : List Value := l.flatMap fun p => [ptr p.1, ptr p.2]
theorem pcells_length (l : List Pr) : (pcells l).length = l.length * 2 := by
 induction l with
 | nil => rfl
 | cons a r ih => rw [pcells, List.flatMap_cons, List.length_append, ← pcells, ih, List.length_cons]; simp; omega
theorem pcells_cons (p : Pr) (l : List Pr) : pcells (p :: l).reverse = pcells l.reverse ++ [ptr p.1, ptr p.2] := by
 rw [List.reverse_cons, pcells, List.flatMap_append]
 simp [pcells]
/-- The place reads as the tree. -/
def At1 (w : World) (f : Nat) (it : It) : Prop := it.1 < w.heap.size ∧ ∃ us, At6 w it.1 it.2.1 us ∧ LiesS w f us (row it.2.2)
theorem At1.below {w w' : World} {f : Nat} {it : It} (h : At1 w f it) (hb : Below w.heap.size w w') : ∃ us, At6 w' it.1 it.2.1 us ∧ LiesS w' f us (row it.2.2) := by
 obtain ⟨h1, us, ⟨h2, h3⟩, h4⟩ := h
 exact ⟨us, ⟨h2, fun j u hu => (World.cell?_of_block (hb.block _ h1)).trans (h3 j u hu)⟩, h4.below hb⟩
/-- The first n pairs of kids, the last one first. -/
def prs (g o g' o' : Nat) (kids kids' : List T) : Nat → List Pr
 | 0 => []
 | n + 1 => ((g, o + n * 6, kids.getD n zero), (g', o' + n * 6, kids'.getD n zero)) :: prs g o g' o' kids kids' n
theorem prs_length (g o g' o' : Nat) (kids kids' : List T) : ∀ n, (prs g o g' o' kids kids' n).length = n
 | 0 => rfl
 | n + 1 => by rw [prs, List.length_cons, prs_length g o g' o' kids kids' n]
theorem prs_mem {g o g' o' : Nat} {kids kids' : List T} : ∀ {n : Nat} {p : Pr}, n ≤ kids.length → n ≤ kids'.length → p ∈ prs g o g' o' kids kids' n → ∃ i, ∃ h : i < kids.length, ∃ h' : i < kids'.length, p = ((g, o + i * 6, kids[i]), (g', o' + i * 6, kids'[i]))
 | n + 1, p, hn, hn', h => by
  rcases List.mem_cons.1 h with rfl | h
  ·exact ⟨n, by omega, by omega, by simp [List.getD, show n < kids.length by omega, show n < kids'.length by omega]⟩
  ·exact prs_mem (by omega) (by omega) h
theorem prs_all {g o g' o' : Nat} {kids kids' : List T} : ∀ n, n ≤ kids.length → n ≤ kids'.length → ((∀ p ∈ prs g o g' o' kids kids' n, p.1.2.2 = p.2.2.2) ↔ kids.take n = kids'.take n)
 | 0, _, _ => by simp [prs]
 | n + 1, hn, hn' => by
  rw [prs, List.take_succ_eq_append_getElem (by omega), List.take_succ_eq_append_getElem (by omega)]
  have ih := prs_all (g := g) (o := o) (g' := g') (o' := o') n (by omega : n ≤ kids.length) (by omega : n ≤ kids'.length)
  have h1 : kids.getD n zero = kids[n] := by simp [List.getD, show n < kids.length by omega]
  have h2 : kids'.getD n zero = kids'[n] := by simp [List.getD, show n < kids'.length by omega]
  constructor
  ·intro h
   have h3 := h _ List.mem_cons_self
   simp only [h1, h2] at h3
   rw [ih.1 (fun p hp => h p (List.mem_cons_of_mem _ hp)), h3]
  ·intro h p hp
   have hl : (kids.take n).length = (kids'.take n).length := by rw [List.length_take, List.length_take]; omega
   obtain ⟨h3, h4⟩ := List.append_inj h hl
   rcases List.mem_cons.1 hp with rfl | hp
   ·simp only [h1, h2]
    simpa using h4
   ·exact ih.2 h3 p hp
def sizesP : List Pr → Nat
 | [] => 0
 | p :: r => size p.1.2.2 + sizesP r
theorem sizesP_append : ∀ a b : List Pr, sizesP (a ++ b) = sizesP a + sizesP b
 | [], b => by simp [sizesP]
 | x :: r, b => by rw [List.cons_append, sizesP, sizesP, sizesP_append r b]; omega
theorem sizesP_length : ∀ a : List Pr, a.length ≤ sizesP a
 | [] => by simp [sizesP]
 | x :: r => by rw [sizesP, List.length_cons]; have := sizesP_length r; have := size_pos x.1.2.2; omega
theorem sizesP_prs (g o g' o' : Nat) (kids kids' : List T) : ∀ n, n ≤ kids.length → sizesP (prs g o g' o' kids kids' n) = sizes (kids.take n)
 | 0, _ => by simp [prs, sizesP, sizes]
 | n + 1, h => by
  have hx : kids.getD n zero = kids[n] := by simp [List.getD, show n < kids.length by omega]
  rw [prs, sizesP, sizesP_prs g o g' o' kids kids' n (by omega), List.take_succ_eq_append_getElem (by omega), sizes_append, hx]
  simp only [sizes]
  omega
theorem same_fields {a b : T} (h : sameF a b = true) : (a = b ↔ a.kids = b.kids) ∧ a.kids.length = b.kids.length := by
 obtain ⟨k, fl, n, s, ks, kids⟩ := a
 obtain ⟨k', fl', n', s', ks', kids'⟩ := b
 have h := of_decide_eq_true h
 obtain ⟨h1, h2, h3, h4, h5, h6⟩ := h
 subst h1 h2 h3 h4 h5
 exact ⟨by simp [T.kids], h6⟩
theorem differ_fields {a b : T} (h : sameF a b = false) : a ≠ b := by
 rintro rfl
 obtain ⟨k, fl, n, s, ks, kids⟩ := a
 simp [sameF] at h

structure SmS (w1 : World) (f : Nat) (a b : T) (eP : TypeId) (r : Value) (wr : World) (todo : List Pr) : Prop where
 own : wr.ownsRow w1.heap.size eP 2 r todo.length (pcells todo.reverse)
 at1 : ∀ p ∈ todo, At1 w1 f p.1 ∧ At1 w1 f p.2
 bel : Below w1.heap.size w1 wr
 iff : a = b ↔ ∀ p ∈ todo, p.1.2.2 = p.2.2.2
 bd : sizesP todo ≤ size a
/-- The top of the stack, popped. -/
theorem pair_top {w : World} {B n : Nat} {e : TypeId} {gs cap : Nat} {p : Pr} {r : List Pr} (hn : r.length = n) (h : w.ownsRow B e 2 (.slice (some ⟨gs, 0, none⟩) (n + 1) cap) (n + 1) (pcells (p :: r).reverse)) :
  w.cell? ⟨gs, n * 2, none⟩ = some (ptr p.1) ∧ w.cell? ⟨gs, n * 2 + 1, none⟩ = some (ptr p.2) ∧ n + 1 ≤ cap ∧ w.ownsRow B e 2 (.slice (some ⟨gs, 0, none⟩) n cap) n (pcells r.reverse) := by
 subst hn
 rw [pcells_cons] at h
 have hl : (pcells r.reverse).length = r.length * 2 := by rw [pcells_length, List.length_reverse]
 refine ⟨?_, ?_, ?_, ownsRow_pop hl h⟩
 ·rw [h.cellAt (r.length * 2) (by omega), List.getElem?_append_right (by omega), hl]
  simp
 ·rw [h.cellAt (r.length * 2 + 1) (by omega), List.getElem?_append_right (by omega), hl]
  simp
 ·rcases h.2 with ⟨h, _⟩ | ⟨g', cap', cur, h, _, _, h1, _⟩
  ·cases h
  ·injection h with _ _ h
   omega
/-- A round over equal fields: the kids' pairs in the pair's place. -/
theorem sm_step {w1 : World} {f : Nat} {a b x y : T} {eP : TypeId} {r r' : Value} {wr w' : World} {ga oa gb ob g o g' o' : Nat} {todo : List Pr} (h : SmS w1 f a b eP r wr (((ga, oa, x), (gb, ob, y)) :: todo)) (he : sameF x y = true)
  (hown : w'.ownsRow w1.heap.size eP 2 r' (x.kids.length + todo.length) (pcells (prs g o g' o' x.kids y.kids x.kids.length ++ todo).reverse)) (hb : Below w1.heap.size w1 w')
  (hx : ∀ i, (hi : i < x.kids.length) → At1 w1 f (g, o + i * 6, x.kids[i])) (hy : ∀ i, (hi : i < y.kids.length) → At1 w1 f (g', o' + i * 6, y.kids[i])) : SmS w1 f a b eP r' w' (prs g o g' o' x.kids y.kids x.kids.length ++ todo) := by
 obtain ⟨h1, h2⟩ := same_fields he
 refine ⟨by rw [List.length_append, prs_length]; exact hown, fun p hp => ?_, hb, ?_, ?_⟩
 ·rcases List.mem_append.1 hp with hp | hp
  ·obtain ⟨i, hi, hi', rfl⟩ := prs_mem (Nat.le_refl _) (by omega) hp
   exact ⟨hx i hi, hy i hi'⟩
  ·exact h.at1 p (List.mem_cons_of_mem _ hp)
 ·have ha := prs_all (g := g) (o := o) (g' := g') (o' := o') x.kids.length (Nat.le_refl _) (by omega : x.kids.length ≤ y.kids.length)
  rw [List.take_of_length_le (Nat.le_refl _), List.take_of_length_le (by omega)] at ha
  rw [h.iff]
  constructor
  ·intro hh p hp
   rcases List.mem_append.1 hp with hp | hp
   ·exact ha.2 (h1.1 (hh _ List.mem_cons_self)) p hp
   ·exact hh p (List.mem_cons_of_mem _ hp)
  ·intro hh p hp
   rcases List.mem_cons.1 hp with rfl | hp
   ·exact h1.2 (ha.1 (fun p hp => hh p (List.mem_append.2 (.inl hp))))
   ·exact hh p (List.mem_append.2 (.inr hp))
 ·rw [sizesP_append, sizesP_prs g o g' o' _ _ _ (Nat.le_refl _), List.take_of_length_le (Nat.le_refl _)]
  have h3 := h.bd
  rw [sizesP] at h3
  obtain ⟨k, fl, n, s, ks, kids⟩ := x
  simp only [size, T.kids] at h3 ⊢
  omega
theorem rdn_two (w : World) (u v : Value) (e : TypeId) : RdN (w.alloc (.cells #[u, v] e)) (some ⟨w.heap.size, 0, none⟩) 1 2 [u, v] := by
 refine ⟨rfl, fun _ => ⟨w.heap.size, 0, rfl, by simp, fun j hj u' hu => ?_⟩⟩
 rw [cell_of_row _ w.heap.size (0 + j) #[u, v] e (0, 0) (heap_alloc_new w _), Nat.zero_add]
 simpa using hu
/-- The kids of what a place holds. -/
theorem at_kids {w : World} {k : Nat} {x : T} {u0 u1 u2 u3 u4 u5 : Value} (h : LiesS w k [u0, u1, u2, u3, u4, u5] (row x)) :
  ∃ A c g o, u5 = .slice A x.kids.length c ∧ x.kids.length ≤ c ∧ c ≤ maxLen ∧ (0 < x.kids.length → A = some ⟨g, o, none⟩) ∧ ∀ i, (hi : i < x.kids.length) → At1 w k (g, o + i * 6, x.kids[i]) := by
 have h5 : Lies w k u5 (.sl 6 x.kids.length (rows x.kids)) := by
  obtain ⟨_, _, _, _, _, _⟩ := x
  exact h.2 5 u5 _ rfl rfl
 obtain ⟨A, c, rfl, h1, h2, f', rfl, hk⟩ := kids_of_lies h5
 by_cases hn : 0 < x.kids.length
 ·obtain ⟨g, o, rfl, hg, hkid⟩ := hk hn
  refine ⟨_, c, g, o, rfl, h1, h2, fun _ => rfl, fun i hi => ?_⟩
  obtain ⟨v0, v1, v2, v3, v4, v5, ⟨q0, q1, q2, q3, q4, q5⟩, hl⟩ := hkid i x.kids[i] (List.getElem?_eq_getElem hi)
  refine ⟨hg, [v0, v1, v2, v3, v4, v5], ⟨rfl, fun j u hu => ?_⟩, hl.deeper (Nat.le_succ _)⟩
  match j, hu with
  | 0, hu => injection hu with hu; subst hu; exact q0
  | 1, hu => injection hu with hu; subst hu; exact q1
  | 2, hu => injection hu with hu; subst hu; exact q2
  | 3, hu => injection hu with hu; subst hu; exact q3
  | 4, hu => injection hu with hu; subst hu; exact q4
  | 5, hu => injection hu with hu; subst hu; exact q5
  | j + 6, hu => simp at hu
 ·exact ⟨A, c, 0, 0, rfl, h1, h2, fun h => absurd h hn, fun i hi => absurd hi (by omega)⟩
theorem size_le_len (x : T) : x.kids.length + 1 ≤ size x := by
 obtain ⟨k, fl, n, s, ks, kids⟩ := x
 have : kids.length ≤ sizes kids := by
  clear k fl n s ks
  induction kids with
  | nil => simp
  | cons a r ih => rw [List.length_cons, sizes]; have := size_pos a; omega
 simp only [size, T.kids]
 omega
theorem prs_push (g o g' o' : Nat) (kids kids' : List T) (j : Nat) (todo : List Pr) : pcells (prs g o g' o' kids kids' (j + 1) ++ todo).reverse = pcells (prs g o g' o' kids kids' j ++ todo).reverse ++ [.pointer (some ⟨g, o + j * 6, none⟩), .pointer (some ⟨g', o' + j * 6, none⟩)] := by
 rw [prs, List.cons_append, pcells_cons]
 rfl
theorem size_kids (x : T) : size x = 1 + sizes x.kids := by
 obtain ⟨k, fl, n, s, ks, kids⟩ := x
 simp only [size, T.kids]
end Go.Proofs.YtegpcjkcejijpaaGreatDoor.tree
namespace Go.Proofs.YtegpcjkcejijpaaGreatDoor.tree
open Go.ChangeShapes Go.WideShapes Go.ChangeAt Go.RowKit
set_option linter.unusedVariables false

theorem TryzinfoPair : (Tryz.prog.info? 106).map (fun i => (i.zero, i.size, i.bytes)) = some (some (.agg #[.pointer none, .pointer none]), 2, 16) := by kernel_rfl

set_option maxRecDepth 100000 in
set_option maxHeartbeats 16000000 in
theorem impl_same (f g : Nat) (a b : T) (vs us : List Value) (w : World) (h1 : LiesS w f vs (row a)) (h2 : LiesS w g us (row b)) (hsz : size a ≤ 1099511627776) :
  Calls Tryz.prog 60 #[.agg vs.toArray, .agg us.toArray] w fun e w' => e = .returned (.bool (same a b)) ∧ Below w.heap.size w w' := by
 obtain ⟨k, hk⟩ : ∃ k, k = max f g := ⟨_, rfl⟩
 have h1 := h1.deeper (show f ≤ k by omega)
 have h2 := h2.deeper (show g ≤ k by omega)
 clear hk
 obtain ⟨u0, u1, u2, u3, u4, u5, rfl⟩ := six_of (h1.1.trans (row_length a))
 obtain ⟨v0, v1, v2, v3, v4, v5, rfl⟩ := six_of (h2.1.trans (row_length b))
 obtain ⟨i0, hi, hz0, hz1, hz2⟩ := info_parts TryzinfoPair
 obtain ⟨w1, hw1⟩ : ∃ w1, w1 = (w.alloc (.cells #[u0, u1, u2, u3, u4, u5] 34)).alloc (.cells #[v0, v1, v2, v3, v4, v5] 34) := ⟨_, rfl⟩
 have hs1 : w1.heap.size = w.heap.size + 2 := by rw [hw1]; simp
 have hb1 : Below w.heap.size w w1 := by rw [hw1]; exact ((Below.refl _ _).alloc (Nat.le_refl _) _).alloc (by simp) _
 have r0 : w1.heap[w.heap.size]? = some (.cells #[u0, u1, u2, u3, u4, u5] 34 (0, 0)) := by
  rw [hw1, Below.heap_alloc _ _ _ (by simp)]
  exact heap_alloc_new w _
 have r1 : w1.heap[w.heap.size + 1]? = some (.cells #[v0, v1, v2, v3, v4, v5] 34 (0, 0)) := by
  have h := heap_alloc_new (w.alloc (.cells #[u0, u1, u2, u3, u4, u5] 34)) (.cells #[v0, v1, v2, v3, v4, v5] 34)
  rw [World.size_alloc] at h
  rw [hw1]
  exact h
 obtain ⟨w2, hw2⟩ : ∃ w2, w2 = w1.alloc (.cells #[.pointer (some ⟨w.heap.size, 0, none⟩), .pointer (some ⟨w.heap.size + 1, 0, none⟩)] 106) := ⟨_, rfl⟩
 have hb2 : Below w1.heap.size w1 w2 := by rw [hw2]; exact (Below.refl _ _).alloc (Nat.le_refl _) _
 have hown : w2.ownsRow w1.heap.size 106 2 (.slice (some ⟨w.heap.size + 1 + 1, 0, none⟩) 1 1) 1 [.pointer (some ⟨w.heap.size, 0, none⟩), .pointer (some ⟨w.heap.size + 1, 0, none⟩)] := by
  have h := World.ownsRow_lit (size := 2) (base := w1.heap.size) (e := 106) w1 #[.pointer (some ⟨w.heap.size, 0, none⟩), .pointer (some ⟨w.heap.size + 1, 0, none⟩)] 1 (Nat.le_refl _) (by simp [maxLen]) rfl
  rw [hs1] at h ⊢
  rw [hw2]
  exact h
 have HS := Lib.hid (show SmS w1 k a b 106 (.slice (some ⟨w.heap.size + 1 + 1, 0, none⟩) 1 1) w2 [((w.heap.size, 0, a), (w.heap.size + 1, 0, b))] from
  ⟨hown, fun p hp => by
   obtain rfl := List.mem_singleton.1 hp
   refine ⟨⟨by show w.heap.size < _; omega, _, ⟨rfl, fun j u hu => ?_⟩, h1.below hb1⟩, ⟨by show w.heap.size + 1 < _; omega, _, ⟨rfl, fun j u hu => ?_⟩, h2.below hb1⟩⟩
   ·show w1.cell? ⟨w.heap.size, 0 + j, none⟩ = some u
    rw [cell_of_row w1 _ _ _ _ (0, 0) r0, Nat.zero_add]
    simpa using hu
   ·show w1.cell? ⟨w.heap.size + 1, 0 + j, none⟩ = some u
    rw [cell_of_row w1 _ _ _ _ (0, 0) r1, Nat.zero_add]
    simpa using hu, hb2, by simp, by simp [sizesP]⟩)
 obtain ⟨R, hR⟩ : ∃ R, same a b = R := ⟨_, rfl⟩
 rw [hR]
 have HR := Lib.hid hR
 have Hsz := Lib.hid hsz
 have Hw1 := Lib.hid hw1
 have Hw2 := Lib.hid hw2
 have Hb1 := Lib.hid hb1
 have Hs1 := Lib.hid hs1
 clear h1 h2 hsz hw1 hw2 hb1 hs1 hb2 r0 r1 hown hR
 go_enter Tryz.func60, Tryz.ntmps60
 go_wp2_with fail
 rw [← Hw1.out, ← Hw2.out]
 go_loopg [5] (sizesP [((w.heap.size, 0, a), (w.heap.size + 1, 0, b))]) (fun kk r wr => ∃ (todo : List Pr), kk = sizesP todo ∧ Hid (SmS w1 k a b 106 r wr todo))
 case atStart => exact ⟨_, rfl, HS.out⟩
 case round =>
  obtain ⟨todo, rfl, hC⟩ := hrel
  cases todo with
  | nil =>
   obtain ⟨A, c, rfl⟩ := own_is_slice hC.out.own
   have Hend := Lib.hid (show R = true by
    rw [← HR.out, hC.out.iff.2 (fun p hp => by cases hp), same_refl])
   have HC := Lib.hid hC.out
   clear hC
   go_wp2_with fail
   go_ret
   exact ⟨by rw [Hend.out]; rfl, Hb1.out.trans (HC.out.bel.mono Hb1.out.size)⟩
  | cons p todo =>
   obtain ⟨⟨ga, oa, x⟩, ⟨gb, ob, y⟩⟩ := p
   obtain ⟨gs, cap, rfl⟩ := ownsRow_succ hC.out.own
   obtain ⟨hc', hd', hcap, hpop⟩ := pair_top rfl hC.out.own
   have hc : wr.cell? ⟨gs, todo.length * 2, none⟩ = some (.pointer (some ⟨ga, oa, none⟩)) := hc'
   have hd : wr.cell? ⟨gs, todo.length * 2 + 1, none⟩ = some (.pointer (some ⟨gb, ob, none⟩)) := hd'
   clear hc' hd'
   obtain ⟨hx, hy⟩ := hC.out.at1 _ List.mem_cons_self
   have hbd : (todo.length : Int) + 1 ≤ 9223372036854775807 := by
    have h1 := sizesP_length (((ga, oa, x), (gb, ob, y)) :: todo)
    have h2 := hC.out.bd
    have h3 := Hsz.out
    rw [List.length_cons] at h1
    omega
   have e1 : ((todo.length + 1 : Nat) : Int) - 1 = (todo.length : Int) := by omega
   obtain ⟨W2, hW2⟩ : ∃ W2, W2 = wr.alloc (.cells #[.pointer (some ⟨ga, oa, none⟩), .pointer (some ⟨gb, ob, none⟩)] 106) := ⟨_, rfl⟩
   have hb2 : Below wr.heap.size wr W2 := by rw [hW2]; exact (Below.refl _ _).alloc (Nat.le_refl _) _
   have hn2 : W2.heap[wr.heap.size]? = some (.cells #[.pointer (some ⟨ga, oa, none⟩), .pointer (some ⟨gb, ob, none⟩)] 106 (0, 0)) := by rw [hW2]; exact heap_alloc_new wr _
   have hbw2 : Below w1.heap.size w1 W2 := hC.out.bel.trans (hb2.mono hC.out.bel.size)
   obtain ⟨hga, xs, ⟨hx6, hxc⟩, hxl⟩ := hx
   obtain ⟨hgb, ys, ⟨hy6, hyc⟩, hyl⟩ := hy
   obtain ⟨x0, x1, x2, x3, x4, x5, rfl⟩ := six_of hx6
   obtain ⟨y0, y1, y2, y3, y4, y5, rfl⟩ := six_of hy6
   obtain ⟨A5, c5, g5, o5, rfl, hxk1, hxk2, hxA, hxat⟩ := at_kids hxl
   obtain ⟨B5, d5, g6, o6, rfl, hyk1, hyk2, hyA, hyat⟩ := at_kids hyl
   have HC := Lib.hid hC.out
   have Hpop := Lib.hid hpop
   have Hxc := Lib.hid (fun w' (hb : Below w1.heap.size w1 w') j u (hu : [x0, x1, x2, x3, x4, .slice A5 x.kids.length c5][j]? = some u) => (World.cell?_of_block (hb.block _ hga)).trans (hxc j u hu))
   have Hyc := Lib.hid (fun w' (hb : Below w1.heap.size w1 w') j u (hu : [y0, y1, y2, y3, y4, .slice B5 y.kids.length d5][j]? = some u) => (World.cell?_of_block (hb.block _ hgb)).trans (hyc j u hu))
   have HF := Lib.hid (fun w' (hb : Below w1.heap.size w1 w') => impl_fields x y _ _ w' (hxl.below hb) (hyl.below hb))
   have HW2 := Lib.hid hW2
   have Hb2 := Lib.hid hb2
   have Hn2 := Lib.hid hn2
   have Hbw2 := Lib.hid hbw2
   have Hxat := Lib.hid hxat
   have Hyat := Lib.hid hyat
   have HxA := Lib.hid hxA
   have HyA := Lib.hid hyA
   have Hxk := Lib.hid (show x.kids.length ≤ c5 ∧ c5 ≤ maxLen from ⟨hxk1, hxk2⟩)
   have Hyk := Lib.hid (show y.kids.length ≤ d5 ∧ d5 ≤ maxLen from ⟨hyk1, hyk2⟩)
   clear hC hpop hW2 hb2 hn2 hbw2 hga hgb hx6 hy6 hxc hyc hxl hyl hxat hyat hxA hyA hxk1 hxk2 hyk1 hyk2
   go_wp2_with fail
   rw [← HW2.out]
   have a0 : W2.cell? ⟨ga, oa, none⟩ = some x0 := Hxc.out W2 Hbw2.out 0 _ rfl
   have a1 : W2.cell? ⟨ga, oa + 1, none⟩ = some x1 := Hxc.out W2 Hbw2.out 1 _ rfl
   have a2 : W2.cell? ⟨ga, oa + 2, none⟩ = some x2 := Hxc.out W2 Hbw2.out 2 _ rfl
   have a3 : W2.cell? ⟨ga, oa + 3, none⟩ = some x3 := Hxc.out W2 Hbw2.out 3 _ rfl
   have a4 : W2.cell? ⟨ga, oa + 4, none⟩ = some x4 := Hxc.out W2 Hbw2.out 4 _ rfl
   have a5 : W2.cell? ⟨ga, oa + 5, none⟩ = some (.slice A5 x.kids.length c5) := Hxc.out W2 Hbw2.out 5 _ rfl
   have b0 : W2.cell? ⟨gb, ob, none⟩ = some y0 := Hyc.out W2 Hbw2.out 0 _ rfl
   have b1 : W2.cell? ⟨gb, ob + 1, none⟩ = some y1 := Hyc.out W2 Hbw2.out 1 _ rfl
   have b2 : W2.cell? ⟨gb, ob + 2, none⟩ = some y2 := Hyc.out W2 Hbw2.out 2 _ rfl
   have b3 : W2.cell? ⟨gb, ob + 3, none⟩ = some y3 := Hyc.out W2 Hbw2.out 3 _ rfl
   have b4 : W2.cell? ⟨gb, ob + 4, none⟩ = some y4 := Hyc.out W2 Hbw2.out 4 _ rfl
   have b5 : W2.cell? ⟨gb, ob + 5, none⟩ = some (.slice B5 y.kids.length d5) := Hyc.out W2 Hbw2.out 5 _ rfl
   have t0 : W2.cell? ⟨wr.heap.size, 0, none⟩ = some (.pointer (some ⟨ga, oa, none⟩)) := by rw [cell_of_row W2 _ 0 _ _ (0, 0) Hn2.out]; rfl
   have t1 : W2.cell? ⟨wr.heap.size, 1, none⟩ = some (.pointer (some ⟨gb, ob, none⟩)) := by rw [cell_of_row W2 _ 1 _ _ (0, 0) Hn2.out]; rfl
   clear hc hd
   go_still_tail 8, (by kernel_rfl)
   change wpList _ _ _ _ _ W2.drew
   obtain ⟨W3, hW3⟩ : ∃ W3, W3 = W2.drew := ⟨_, rfl⟩
   have hb3 : Below W2.heap.size W2 W3 := by rw [hW3]; exact (Below.refl _ _).drew
   rw [← hW3]
   have Hbw3 := Lib.hid (Hbw2.out.trans (hb3.mono Hbw2.out.size))
   have Hn3 := Lib.hid ((hb3.block _ (heap_lt Hn2.out)).trans Hn2.out)
   have Hb3 := Lib.hid (Hb2.out.trans (hb3.mono Hb2.out.size))
   clear hW3 hb3 a0 a1 a2 a3 a4 a5 b0 b1 b2 b3 b4 b5 t0 t1
   go_wp2_with fail
   refine (HF.out W3 Hbw3.out).mono ?_
   rintro e W4 ⟨rfl, hb4⟩
   have Hbw4 := Lib.hid (Hbw3.out.trans (hb4.mono Hbw3.out.size))
   have Hn4 := Lib.hid ((hb4.block _ (heap_lt Hn3.out)).trans Hn3.out)
   have Hb4 := Lib.hid (Hb3.out.trans (hb4.mono Hb3.out.size))
   clear hb4
   cases hF : sameF x y with
   | false =>
    have Hend := Lib.hid (show R = false by
     rw [← HR.out]
     exact same_ne (fun e => differ_fields hF (HC.out.iff.1 e _ List.mem_cons_self)))
    clear hF
    go_wp2_with fail
    go_ret
    exact ⟨by rw [Hend.out]; rfl, Hb1.out.trans (Hbw4.out.mono Hb1.out.size)⟩
   | true =>
    have Hlen := Lib.hid (same_fields hF).2
    have HFt := Lib.hid hF
    have a5 : W4.cell? ⟨ga, oa + 5, none⟩ = some (.slice A5 x.kids.length c5) := Hxc.out W4 Hbw4.out 5 _ rfl
    have t0 : W4.cell? ⟨wr.heap.size, 0, none⟩ = some (.pointer (some ⟨ga, oa, none⟩)) := by rw [cell_of_row W4 _ 0 _ _ (0, 0) Hn4.out]; rfl
    have hin : W4.ownsRow w1.heap.size 106 2 (.slice (some ⟨gs, 0, none⟩) todo.length cap) (0 + todo.length) (pcells (prs g5 o5 g6 o6 x.kids y.kids 0 ++ todo).reverse) := by
     rw [Nat.zero_add]
     exact own_below' Hpop.out Hb4.out
    have Hin := Lib.hid hin
    have Hgs := Lib.hid (show gs ≠ wr.heap.size from fun e => by have := (Hpop.out.lt gs rfl).2; omega)
    obtain ⟨nb, hnb⟩ : ∃ nb, nb = wr.heap.size := ⟨_, rfl⟩
    rw [← hnb] at Hn4 t0 Hgs ⊢
    have Hnb := Lib.hid (show w1.heap.size ≤ nb by rw [hnb]; exact HC.out.bel.size)
    clear hF hin hnb
    go_wp2_with fail
    go_loopw [5, 40] (fun r i wD => ∃ (j : Nat), j ≤ x.kids.length ∧ i = .int .i64 j ∧ Hid (wD.ownsRow w1.heap.size 106 2 r (j + todo.length) (pcells (prs g5 o5 g6 o6 x.kids y.kids j ++ todo).reverse) ∧ Below w1.heap.size w1 wD ∧ wD.heap[nb]? = some (.cells #[.pointer (some ⟨ga, oa, none⟩), .pointer (some ⟨gb, ob, none⟩)] 106 (0, 0)) ∧ r.ownBlock ≠ some nb)) (fun _ i _ => x.kids.length - (intOf i).toNat)
    case atStart => exact ⟨0, Nat.zero_le _, rfl, Hin.out, Hbw4.out, Hn4.out, fun e => Hgs.out (by simpa [Value.ownBlock] using e)⟩
    case round =>
     obtain ⟨j, hj, rfl, hin⟩ := hrel
     obtain ⟨Ar, cr, rfl⟩ := own_is_slice hin.out.1
     have Hin2 := Lib.hid hin.out
     clear Hin hin a5 t0
     by_cases hlt : j < x.kids.length
     ·obtain rfl := HxA.out (by omega)
      obtain rfl := HyA.out (by have := Hlen.out; omega)
      have a5 : wr.cell? ⟨ga, oa + 5, none⟩ = some (.slice (some ⟨g5, o5, none⟩) x.kids.length c5) := Hxc.out wr Hin2.out.2.1 5 _ rfl
      have b5 : wr.cell? ⟨gb, ob + 5, none⟩ = some (.slice (some ⟨g6, o6, none⟩) y.kids.length d5) := Hyc.out wr Hin2.out.2.1 5 _ rfl
      have t0 : wr.cell? ⟨nb, 0, none⟩ = some (.pointer (some ⟨ga, oa, none⟩)) := by rw [cell_of_row wr _ 0 _ _ (0, 0) Hin2.out.2.2.1]; rfl
      have t1 : wr.cell? ⟨nb, 1, none⟩ = some (.pointer (some ⟨gb, ob, none⟩)) := by rw [cell_of_row wr _ 1 _ _ (0, 0) Hin2.out.2.2.1]; rfl
      have hlt2 : j < y.kids.length := by have := Hlen.out; omega
      have hbd7 : (j : Int) + todo.length + 1 ≤ 2199023255552 := by
       have h1 := sizesP_length (((ga, oa, x), (gb, ob, y)) :: todo)
       have h2 := HC.out.bd
       have h3 := Hsz.out
       have h4 := size_le_len x
       rw [sizesP] at h2
       have h5 := sizesP_length todo
       rw [List.length_cons] at h1
       simp only at h2
       omega
      have hjb : (j : Int) + 1 ≤ 9223372036854775807 := by omega
      have Hbd7 := Lib.hid hbd7
      clear hbd7
      have hb6 : Below wr.heap.size wr (wr.drew.alloc (.cells #[.pointer (some ⟨g5, o5 + j * 6, none⟩), .pointer (some ⟨g6, o6 + j * 6, none⟩)] 106)) := (Below.refl _ _).drew.alloc (Nat.le_refl _) _
      have hown6 := own_below' Hin2.out.1 hb6
      have hs6 : w1.heap.size ≤ (wr.drew.alloc (.cells #[.pointer (some ⟨g5, o5 + j * 6, none⟩), .pointer (some ⟨g6, o6 + j * 6, none⟩)] 106)).heap.size := by have := hb6.size; have := Hin2.out.2.1.size; omega
      have Hb6 := Lib.hid hb6
      have Hown6 := Lib.hid hown6
      have Hs6 := Lib.hid hs6
      clear hb6 hown6 hs6
      go_wp2_with fail
      go_region_law (first | (refine step_append_at rfl (.tmp 43) (.tmp 59) 107 rfl w1.heap.size 106 i0 _ 2 16 Tryz.underlying107 hi hz0 hz1 hz2 rfl (by decide) _ _ _ rfl Hown6.out ⟨wr.heap.size, 0, none⟩ 1 1 [.pointer (some ⟨g5, o5 + j * 6, none⟩), .pointer (some ⟨g6, o6 + j * 6, none⟩)] rfl rfl (by exact lit_cells _ _ _) (by simp [Value.oneCell']) (by have := Hbd7.out; unfold maxLen; omega) (by have := Hbd7.out; omega) Hs6.out ?_; intro v8 W8 hown8 hgr8 hat8; obtain ⟨A8, c8, rfl⟩ := own_is_slice hown8))
      all_goals
       have hlt8 := heap_lt Hin2.out.2.2.1
       have Hown8 := Lib.hid (show W8.ownsRow w1.heap.size 106 2 (.slice A8 (j + todo.length + 1) c8) (j + 1 + todo.length) (pcells (prs g5 o5 g6 o6 x.kids y.kids (j + 1) ++ todo).reverse) by
        rw [prs_push, show j + 1 + todo.length = j + todo.length + 1 by omega]
        simpa using hown8)
       have Hb8 := Lib.hid ((Hin2.out.2.1.trans (Hb6.out.mono Hin2.out.2.1.size)).grown hgr8 Hs6.out (fun b hb => (Hin2.out.1.lt b hb).1))
       have Hn8 := Lib.hid (((hgr8.block nb (Nat.lt_of_lt_of_le hlt8 Hb6.out.size) (fun e => Hin2.out.2.2.2 e.symm)).trans (Hb6.out.block nb hlt8)).trans Hin2.out.2.2.1)
       have Hne8 := Lib.hid (show (Value.slice A8 (j + todo.length + 1) c8).ownBlock ≠ some nb from fun e => by
        rcases hat8 with h | h
        ·exact Hin2.out.2.2.2 (h.symm.trans e)
        ·rw [e] at h
         have h4 : nb = wr.heap.size + 1 := (Option.some.inj h).trans (by first | (simp; done) | rfl)
         omega)
       clear hown8 hgr8 hat8 Hown6 Hb6 Hs6 hlt8
       go_wp2_with fail
       go_roundw
       case rel => exact ⟨j + 1, by omega, by go_num, Hown8.out, Hb8.out, Hn8.out, Hne8.out⟩
       case measure => simp [intOf]; omega
     ·obtain rfl : j = x.kids.length := by omega
      have HCn := Lib.hid (sm_step HC.out HFt.out Hin2.out.1 Hin2.out.2.1 Hxat.out Hyat.out)
      clear Hin2
      go_wp2_with fail
      go_roundg (sizesP (prs g5 o5 g6 o6 x.kids y.kids x.kids.length ++ todo))
      case measure =>
       rw [sizesP_append, sizesP_prs g5 o5 g6 o6 _ _ _ (Nat.le_refl _), List.take_of_length_le (Nat.le_refl _), sizesP]
       have := size_kids x
       simp only
       omega
      case rel => exact ⟨_, rfl, HCn.out⟩
end Go.Proofs.YtegpcjkcejijpaaGreatDoor.tree
