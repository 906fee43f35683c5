/- Merged: SayF IndM StrL IndRow. -/
import Derived.Test.YtbfkkaafkinpmaaGreatDoorGBk
import Derived.Test.YtbfkkaafkinpmaaGreatDoorGTree
import Derived.Maps.AppendAt
namespace Go.Proofs.YtbfkkaafkinpmaaGreatDoor.say
open Go Go.RowKit tree
set_option linter.unusedVariables false

open Classical in
noncomputable def bracedF (t : T) : ByteArray := if Ok t ∧ (say t).length ≤ 20000 then ⟨(say t).toArray⟩ else ⟨#[]⟩
theorem braced_yes {t : T} (h : Ok t) : bracedF t = if (say t).length ≤ 20000 then ⟨(say t).toArray⟩ else ⟨#[]⟩ := by
  unfold bracedF
  by_cases h2 : (say t).length ≤ 20000
  · rw [if_pos ⟨h, h2⟩, if_pos h2]
  · rw [if_neg (fun e => h2 e.2), if_neg h2]
theorem braced_no {t : T} (h : ¬ Ok t) : bracedF t = ⟨#[]⟩ := by
  unfold bracedF
  rw [if_neg (fun e => h e.1)]
theorem wf_int {n : Int} (h : (Lit.int .i64 n).wf = true) : -9223372036854775808 ≤ n ∧ n ≤ 9223372036854775807 := by
  have e1 : IntKind.i64.min = -9223372036854775808 := rfl
  have e2 : IntKind.i64.max = 9223372036854775807 := rfl
  simp [Lit.wf, e1, e2] at h
  exact h
theorem lies_nums : ∀ (f : Nat) (t : T) (vs : List Value) (w : World), LiesS w f vs (row t) → Nums t
  | 0, t, vs, w, h => by
    obtain ⟨k, fl, n, s, ks, kids⟩ := t
    obtain ⟨_, _, _, _, _, _, _, _, _, _, _, _, _, _, f', hf, _⟩ := open_tree h
    omega
  | f + 1, t, vs, w, h => by
    obtain ⟨k, fl, n, s, ks, kids⟩ := t
    obtain ⟨A1, c1, A2, c2, rfl, wk, wn, hs, hc1, hc2, hr, hks, hc3, hc4, f', hf, hk⟩ := open_tree h
    obtain rfl : f = f' := by omega
    rw [Nums, numss_iff]
    refine ⟨wf_int wn, fun x hx => ?_⟩
    obtain ⟨i, hi, rfl⟩ := List.getElem_of_mem hx
    obtain ⟨g, o, rfl, hg, hc⟩ := hk (by omega)
    obtain ⟨u0, u1, u2, u3, u4, u5, _, hl⟩ := hc i kids[i] (List.getElem?_eq_getElem hi)
    exact lies_nums f kids[i] _ w hl
end Go.Proofs.YtbfkkaafkinpmaaGreatDoor.say
namespace Go.Proofs.YtbfkkaafkinpmaaGreatDoor.ind
open Go Go.RowKit tree line
set_option linter.unusedVariables false

def two : ByteArray := ⟨#[32, 32]⟩
def dash : ByteArray := ⟨#[45, 32]⟩
def colon : ByteArray := ⟨#[58]⟩
def colonSp : ByteArray := ⟨#[58, 32]⟩
/-- Lines behind a head: the first one behind it, the others behind two spaces. -/
def hang (h : ByteArray) : List ByteArray → List ByteArray
  | [] => []
  | x :: r => (h ++ x) :: r.map (two ++ ·)
/-- A pair's lines, out of its kid's. -/
noncomputable def pairL (k : ByteArray) (x : T) (ls : List ByteArray) : List ByteArray :=
  if x.kids = [] then [keyT k ++ colonSp ++ ls.headD ⟨#[]⟩] else (keyT k ++ colon) :: ls.map (two ++ ·)
instance (l : List T) : Decidable (l = []) := by cases l with | nil => exact isTrue rfl | cons a r => exact isFalse (by simp)
mutual
noncomputable def linesF : T → List ByteArray
  | .mk k f n s ks kids => if kids.length = 0 then [tellS (.mk k f n s ks kids)] else if k = 6 then mapL ks kids else listL kids
noncomputable def listL : List T → List ByteArray
  | [] => []
  | x :: r => hang dash (linesF x) ++ listL r
noncomputable def mapL : List ByteArray → List T → List ByteArray
  | _, [] => []
  | [], _ :: _ => []
  | k :: ks, x :: r => pairL k x (linesF x) ++ mapL ks r
end
theorem lines_leaf {k : Int} {f : Bool} {n : Int} {s : ByteArray} {ks : List ByteArray} {kids : List T} (h : kids.length = 0) : linesF (.mk k f n s ks kids) = [tellS (.mk k f n s ks kids)] := by rw [linesF, if_pos h]
theorem lines_map {f : Bool} {n : Int} {s : ByteArray} {ks : List ByteArray} {kids : List T} (h : ¬ kids.length = 0) : linesF (.mk 6 f n s ks kids) = mapL ks kids := by rw [linesF, if_neg h, if_pos rfl]
theorem lines_list {k : Int} {f : Bool} {n : Int} {s : ByteArray} {ks : List ByteArray} {kids : List T} (h : ¬ kids.length = 0) (hk : k ≠ 6) : linesF (.mk k f n s ks kids) = listL kids := by rw [linesF, if_neg h, if_neg hk]
theorem listL_append : ∀ a b : List T, listL (a ++ b) = listL a ++ listL b
  | [], b => rfl
  | x :: r, b => by rw [List.cons_append, listL, listL, listL_append r b, List.append_assoc]
theorem listL_snoc (a : List T) (x : T) : listL (a ++ [x]) = listL a ++ hang dash (linesF x) := by rw [listL_append]; simp [listL]
theorem listL_take {kids : List T} {i : Nat} (h : i < kids.length) : listL (kids.take (i + 1)) = listL (kids.take i) ++ hang dash (linesF kids[i]) := by
  rw [List.take_succ_eq_append_getElem h, listL_snoc]
theorem mapL_snoc : ∀ (ks : List ByteArray) (kids : List T) (k : ByteArray) (x : T), ks.length = kids.length → mapL (ks ++ [k]) (kids ++ [x]) = mapL ks kids ++ pairL k x (linesF x)
  | [], [], k, x, _ => by simp [mapL]
  | [], _ :: _, _, _, h => by simp at h
  | _ :: _, [], _, _, h => by simp at h
  | a :: ks, y :: kids, k, x, h => by
    rw [List.cons_append, List.cons_append, mapL, mapL, mapL_snoc ks kids k x (by simpa using h), List.append_assoc]
theorem mapL_take {ks : List ByteArray} {kids : List T} {i : Nat} (hl : ks.length = kids.length) (h : i < kids.length) : mapL (ks.take (i + 1)) (kids.take (i + 1)) = mapL (ks.take i) (kids.take i) ++ pairL (ks[i]'(by omega)) kids[i] (linesF kids[i]) := by
  rw [List.take_succ_eq_append_getElem h, List.take_succ_eq_append_getElem (show i < ks.length by omega), mapL_snoc _ _ _ _ (by simp [List.length_take]; omega)]

/-! How many they are, and how long. -/
theorem hang_length (h : ByteArray) (l : List ByteArray) : (hang h l).length = l.length := by cases l <;> simp [hang]
theorem hang_take {h : ByteArray} {l : List ByteArray} {i : Nat} (hi : i < l.length) : (hang h l).take (i + 1) = (hang h l).take i ++ [(if i = 0 then h else two) ++ l[i]] := by
  have hl : i < (hang h l).length := by rw [hang_length]; exact hi
  rw [List.take_succ_eq_append_getElem hl]
  congr 2
  cases l with
  | nil => simp at hi
  | cons x r =>
    cases i with
    | zero => simp [hang]
    | succ i => simp [hang]
theorem hang_two (l : List ByteArray) : hang two l = l.map (two ++ ·) := by cases l <;> simp [hang]
theorem pair_length (k : ByteArray) (x : T) (ls : List ByteArray) : (pairL k x ls).length = if x.kids = [] then 1 else 1 + ls.length := by
  unfold pairL
  split <;> simp <;> omega
theorem lines_ne : ∀ t : T, Shape t → linesF t ≠ [] := by
  refine T.ind fun k f n s ks kids ih hs => ?_
  rw [Shape, shapes_iff] at hs
  cases kids with
  | nil => rw [lines_leaf rfl]; simp
  | cons x r =>
    by_cases h6 : k = 6
    · subst h6
      rw [lines_map (by simp)]
      have hl := hs.1.2.2.2.2.2.2.2 rfl
      cases ks with
      | nil => simp at hl
      | cons a q =>
        rw [mapL]
        intro e
        have e2 := (List.append_eq_nil_iff.1 e).1
        unfold pairL at e2
        split at e2 <;> simp at e2
    · rw [lines_list (by simp) h6, listL]
      intro e
      have e2 := (List.append_eq_nil_iff.1 e).1
      have e3 := ih x List.mem_cons_self (hs.2.2.2 x List.mem_cons_self)
      have := hang_length dash (linesF x)
      rw [e2] at this
      exact e3 (List.eq_nil_of_length_eq_zero this.symm)
theorem lines_leaf1 {t : T} (h : t.kids = []) : (linesF t).length = 1 := by
  obtain ⟨k, f, n, s, ks, kids⟩ := t
  rw [lines_leaf (by rw [show kids = [] from h]; rfl)]
  rfl
theorem lines_both : ∀ t : T, (linesF t).length ≤ size t ∧ (t.kids ≠ [] → (linesF t).length + 1 ≤ size t) := by
  refine T.ind fun k f n s ks kids ih => ?_
  by_cases h : kids.length = 0
  · have h0 : kids = [] := List.eq_nil_of_length_eq_zero h
    rw [lines_leaf h, size]
    exact ⟨by simp, fun hne => absurd h0 hne⟩
  · have hL : ∀ l : List T, (∀ x ∈ l, (linesF x).length ≤ size x) → (listL l).length ≤ sizes l := by
      intro l
      induction l with
      | nil => intro _; simp [listL]
      | cons x r ih2 =>
        intro hx
        have h1 := hx x List.mem_cons_self
        have h2 := ih2 (fun y hy => hx y (List.mem_cons_of_mem _ hy))
        rw [listL, sizes, List.length_append, hang_length]
        omega
    have hM : ∀ (l : List T) (q : List ByteArray), (∀ x ∈ l, (linesF x).length ≤ size x ∧ (x.kids ≠ [] → (linesF x).length + 1 ≤ size x)) → (mapL q l).length ≤ sizes l := by
      intro l
      induction l with
      | nil => intro q _; cases q <;> simp [mapL]
      | cons x r ih2 =>
        intro q hx
        cases q with
        | nil => simp [mapL]
        | cons a q =>
          have h1 := hx x List.mem_cons_self
          have h2 := ih2 q (fun y hy => hx y (List.mem_cons_of_mem _ hy))
          rw [mapL, sizes, List.length_append, pair_length]
          split
          · have : 1 ≤ size x := by obtain ⟨_, _, _, _, _, _⟩ := x; rw [size]; omega
            omega
          · rename_i h3
            have := h1.2 h3
            omega
    have hmain : (linesF (.mk k f n s ks kids)).length ≤ sizes kids := by
      by_cases h6 : k = 6
      · subst h6
        rw [lines_map h]
        exact hM kids ks ih
      · rw [lines_list h h6]
        exact hL kids (fun x hx => (ih x hx).1)
    rw [size]
    exact ⟨by omega, fun _ => by omega⟩
theorem lines_count (t : T) : (linesF t).length ≤ size t := (lines_both t).1
theorem key_le {k : ByteArray} (h : TextOk k) : (keyT k).size ≤ 2402 := by
  have := keyT_le k
  have := h.1
  omega
theorem tellS_le {t : T} (h0 : -9223372036854775808 ≤ t.num) (h1 : t.num ≤ 9223372036854775807) (hs : t.text.size ≤ 400) : (tellS t).size ≤ 4000 := by
  unfold tellS tellF
  split
  · exact tellT_le h0 h1 hs
  · show (⟨#[]⟩ : ByteArray).size ≤ 4000
    decide
theorem two_size (x : ByteArray) : (two ++ x).size = x.size + 2 := by rw [ByteArray.size_append]; show 2 + x.size = _; omega
theorem dash_size (x : ByteArray) : (dash ++ x).size = x.size + 2 := by rw [ByteArray.size_append]; show 2 + x.size = _; omega
theorem hang_le {l : List ByteArray} {c : Nat} (h : ∀ x ∈ l, x.size ≤ c) : ∀ x ∈ hang dash l, x.size ≤ c + 2 := by
  cases l with
  | nil => intro x hx; cases hx
  | cons a r =>
    intro x hx
    rcases List.mem_cons.1 hx with rfl | hx
    · rw [dash_size]; have := h a List.mem_cons_self; omega
    · obtain ⟨y, hy, rfl⟩ := List.mem_map.1 hx
      show (two ++ y).size ≤ _
      rw [two_size]; have := h y (List.mem_cons_of_mem _ hy); omega
theorem depth_pos (t : T) : 1 ≤ depth t := by obtain ⟨_, _, _, _, _, _⟩ := t; rw [depth]; omega
theorem line_le : ∀ t : T, Shape t → say.Nums t → (∀ x ∈ linesF t, x.size ≤ 6404 + 2 * depth t) ∧ (t.kids = [] → ∀ x ∈ linesF t, x.size ≤ 4000) := by
  refine T.ind fun k f n s ks kids ih hs hn => ?_
  rw [Shape, shapes_iff] at hs
  rw [say.Nums, say.numss_iff] at hn
  obtain ⟨hf, ht, hko, hkd⟩ := hs
  have hD : depth (T.mk k f n s ks kids) = depths kids + 1 := by rw [depth]
  by_cases h : kids.length = 0
  · rw [lines_leaf h]
    have h4 : (tellS (.mk k f n s ks kids)).size ≤ 4000 := tellS_le hn.1.1 hn.1.2 ht.1
    exact ⟨fun x hx => by rw [List.mem_singleton] at hx; subst hx; omega, fun _ x hx => by rw [List.mem_singleton] at hx; subst hx; exact h4⟩
  · refine ⟨?_, fun e => absurd (by rw [show kids = [] from e]; rfl) h⟩
    have hdk : ∀ x ∈ kids, depth x ≤ depths kids := by
      clear ih hko hkd hf hn hD h
      induction kids with
      | nil => intro x hx; cases hx
      | cons a r ih2 =>
        intro x hx
        rw [depths]
        rcases List.mem_cons.1 hx with rfl | hx
        · omega
        · have := ih2 x hx; omega
    have hL : ∀ l : List T, (∀ x ∈ l, x ∈ kids) → ∀ x ∈ listL l, x.size ≤ 6404 + 2 * depths kids + 2 := by
      intro l
      induction l with
      | nil => intro _ x hx; cases hx
      | cons a r ih2 =>
        intro hm x hx
        rw [listL] at hx
        rcases List.mem_append.1 hx with hx | hx
        · have ha := hm a List.mem_cons_self
          have h1 := (ih a ha (hkd a ha) (hn.2 a ha)).1
          have h2 := hang_le h1 x hx
          have := hdk a ha
          omega
        · exact ih2 (fun y hy => hm y (List.mem_cons_of_mem _ hy)) x hx
    have hM : ∀ (l : List T) (q : List ByteArray), (∀ x ∈ l, x ∈ kids) → (∀ y ∈ q, TextOk y) → ∀ x ∈ mapL q l, x.size ≤ 6404 + 2 * depths kids + 2 := by
      intro l
      induction l with
      | nil => intro q _ _ x hx; cases q <;> simp [mapL] at hx
      | cons a r ih2 =>
        intro q hm hq x hx
        cases q with
        | nil => simp [mapL] at hx
        | cons y q =>
          rw [mapL] at hx
          rcases List.mem_append.1 hx with hx | hx
          · have ha := hm a List.mem_cons_self
            have hi := ih a ha (hkd a ha) (hn.2 a ha)
            have hy := key_le (hq y List.mem_cons_self)
            have hdp := depth_pos a
            have hda := hdk a ha
            unfold pairL at hx
            split at hx
            · rename_i h3
              rw [List.mem_singleton] at hx
              subst hx
              have h4 : ((linesF a).headD ⟨#[]⟩).size ≤ 4000 := by
                cases hl : linesF a with
                | nil => show (⟨#[]⟩ : ByteArray).size ≤ 4000; decide
                | cons b t => exact hi.2 h3 b (by rw [hl]; exact List.mem_cons_self)
              have e1 : (keyT y ++ colonSp ++ (linesF a).headD ⟨#[]⟩).size = (keyT y).size + 2 + ((linesF a).headD ⟨#[]⟩).size := by rw [ByteArray.size_append, ByteArray.size_append]; rfl
              rw [e1]
              omega
            · rcases List.mem_cons.1 hx with rfl | hx
              · have e1 : (keyT y ++ colon).size = (keyT y).size + 1 := by rw [ByteArray.size_append]; rfl
                rw [e1]; omega
              · obtain ⟨z, hz, rfl⟩ := List.mem_map.1 hx
                show (two ++ z).size ≤ _
                rw [two_size]
                have := hi.1 z hz
                omega
          · exact ih2 q (fun z hz => hm z (List.mem_cons_of_mem _ hz)) (fun z hz => hq z (List.mem_cons_of_mem _ hz)) x hx
    intro x hx
    rw [hD]
    by_cases h6 : k = 6
    · subst h6
      rw [lines_map h] at hx
      have := hM kids ks (fun _ h => h) (fun y hy => by
        obtain ⟨i, hi, rfl⟩ := List.getElem_of_mem hy
        have := (hko i hi).1
        rw [List.getD_eq_getElem?_getD, List.getElem?_eq_getElem hi] at this
        exact this) x hx
      omega
    · rw [lines_list h h6] at hx
      have := hL kids (fun _ h => h) x hx
      omega
end Go.Proofs.YtbfkkaafkinpmaaGreatDoor.ind
namespace Go.Proofs.YtbfkkaafkinpmaaGreatDoor.ind
open Go.ChangeShapes Go.WideShapes Go.ChangeAt Go.RowKit tree
set_option linter.unusedVariables false

/-- What a function that makes a list of strings hands back. -/
def OutL (w : World) (l : List ByteArray) (e : Ending) (w' : World) : Prop := ∃ v, e = .returned v ∧ w'.ownsRow w.heap.size 9 1 v l.length (scells l) ∧ Below w.heap.size w w'
theorem own_lower {w : World} {B B' size n : Nat} {e : TypeId} {v : Value} {xs : List Value} (h : w.ownsRow B e size v n xs) (hb : B' ≤ B) : w.ownsRow B' e size v n xs := by
  refine ⟨h.1, ?_⟩
  rcases h.2 with h6 | ⟨k, cap, cur, k1, k2, k3, k4⟩
  · exact .inl h6
  · exact .inr ⟨k, cap, cur, k1, Nat.le_trans hb k2, k3, k4⟩
/-- A list that reads, in another block than v's. -/
def Beside (w : World) (v : Value) (A : Option Addr) (n : Nat) (xs : List Value) : Prop := Rd w A n xs ∧ (0 < n → ∀ g o, A = some ⟨g, o, none⟩ → v.ownBlock ≠ some g)
theorem Beside.below {w w' : World} {v : Value} {A : Option Addr} {n : Nat} {xs : List Value} (h : Beside w v A n xs) (hb : Below w.heap.size w w') : Beside w' v A n xs := ⟨h.1.below hb, h.2⟩
theorem Beside.grown {w w' : World} {v v' : Value} {A : Option Addr} {n : Nat} {xs : List Value} (h : Beside w v A n xs) (hg : w.grownBy w' v.ownBlock) (hat : v'.ownBlock = v.ownBlock ∨ v'.ownBlock = some w.heap.size) : Beside w' v' A n xs := by
  refine ⟨⟨h.1.1, fun hn => ?_⟩, fun hn g o hA e => ?_⟩
  · obtain ⟨g, o, rfl, hg0, hc⟩ := h.1.2 hn
    have e := hg.block g hg0 (fun e => h.2 hn g o rfl e.symm)
    exact ⟨g, o, rfl, Nat.lt_of_lt_of_le hg0 hg.size, fun j hj u hu => (World.cell?_of_block e).trans (hc j hj u hu)⟩
  · rcases hat with hh | hh
    · exact h.2 hn g o hA (hh ▸ e)
    · rw [hh] at e
      injection e with e
      obtain ⟨g2, o2, rfl, hg0, _⟩ := h.1.2 hn
      injection hA with hA
      injection hA with h1 h2
      omega
/-- A list that was just made lies beside one that was there. -/
theorem Beside.of {w w' : World} {B n m : Nat} {e : TypeId} {v : Value} {A : Option Addr} {c : Nat} {xs ys : List Value} (h : w.ownsRow B e 1 v n xs) (h2 : w'.ownsRow w.heap.size e 1 (.slice A m c) m ys) : Beside w' v A m ys := by
  obtain ⟨A', c', hA, _, _, hr⟩ := Rd.of_own h2
  injection hA with h1 _ h3
  subst h1
  refine ⟨hr, fun hn g o hA e => ?_⟩
  have hlt := (h.lt g e).2
  have h5 := (h2.lt g (by rw [hA]; rfl)).1
  omega
/-- The list under way, behind one more string: in the world in which the string's own block had been laid ahead. -/
theorem own_snoc {w4 : World} {B : Nat} {v4 : Value} {m : Nat} {l : List ByteArray} {y : ByteArray} (h : w4.ownsRow B 9 1 v4 (m + 1) (scells l ++ [.string y])) : w4.ownsRow B 9 1 v4 (m + 1) (scells (l ++ [y])) := by
  have e : scells (l ++ [y]) = scells l ++ [.string y] := by simp [scells]
  rw [e]; exact h
theorem alloc_below (w : World) (o : Obj) : Below w.heap.size w (w.alloc o) := (Below.refl _ _).alloc (Nat.le_refl _) _
theorem len_le_sizes : ∀ l : List T, l.length ≤ sizes l
  | [] => Nat.zero_le _
  | t :: r => by
    have := len_le_sizes r
    rw [sizes, List.length_cons]
    obtain ⟨k, f, n, s, ks, kids⟩ := t
    rw [size]
    omega
theorem listL_take_le (kids : List T) (j : Nat) : (listL (kids.take j)).length ≤ (listL kids).length := by
  have h : listL (kids.take j) ++ listL (kids.drop j) = listL kids := by rw [← listL_append, List.take_append_drop]
  have := congrArg List.length h
  rw [List.length_append] at this
  omega
theorem mapL_take_le : ∀ (ks : List ByteArray) (kids : List T) (j : Nat), (mapL (ks.take j) (kids.take j)).length ≤ (mapL ks kids).length
  | _, [], j => by simp [mapL]
  | [], _ :: _, j => by cases j <;> simp [mapL]
  | k :: ks, x :: kids, 0 => by simp [mapL]
  | k :: ks, x :: kids, j + 1 => by
    have := mapL_take_le ks kids j
    rw [List.take_succ_cons, List.take_succ_cons, mapL, mapL, List.length_append, List.length_append]
    omega
theorem hang_take_le (h : ByteArray) (ls : List ByteArray) (q : Nat) : ((hang h ls).take q).length ≤ ls.length := by
  rw [List.length_take, hang_length]; omega
theorem hang_step {h : ByteArray} {ls l : List ByteArray} {q : Nat} (hq : q < ls.length) : l ++ (hang h ls).take (q + 1) = (l ++ (hang h ls).take q) ++ [(if q = 0 then h else two) ++ ls[q]] := by
  rw [hang_take hq, List.append_assoc]
theorem hang_done (h : ByteArray) (ls : List ByteArray) : (hang h ls).take ls.length = hang h ls := List.take_of_length_le (by rw [hang_length]; omega)
theorem depths_mem {kids : List T} {x : T} (h : x ∈ kids) : depth x ≤ depths kids := by
  induction kids with
  | nil => cases h
  | cons a r ih2 =>
    rw [depths]
    rcases List.mem_cons.1 h with rfl | h
    · omega
    · have := ih2 h; omega
theorem depth_kid {k : Int} {f : Bool} {n : Int} {s : ByteArray} {ks : List ByteArray} {kids : List T} {x : T} (h : x ∈ kids) : depth x + 1 ≤ depth (.mk k f n s ks kids) := by
  have := depths_mem h
  rw [depth]; omega
end Go.Proofs.YtbfkkaafkinpmaaGreatDoor.ind
namespace Go.Proofs.YtbfkkaafkinpmaaGreatDoor.ind
open Go.ChangeShapes Go.WideShapes Go.ChangeAt Go.RowKit tree line
set_option linter.unusedVariables false

open Classical in
/-- What IndentedLines gives. -/
noncomputable def rowsT (t : T) : List ByteArray := if Ok t then linesF t else []
theorem rows_yes {t : T} (h : Ok t) : rowsT t = linesF t := by unfold rowsT; rw [if_pos h]
theorem rows_no {t : T} (h : ¬ Ok t) : rowsT t = [] := by unfold rowsT; rw [if_neg h]
theorem rows_small {t : T} (hn : say.Nums t) : (rowsT t).length ≤ 300 ∧ ∀ x ∈ rowsT t, x.size ≤ 6420 := by
  by_cases h : Ok t
  · rw [rows_yes h]
    refine ⟨Nat.le_trans (lines_both t).1 h.2.1, fun x hx => ?_⟩
    have := (line_le t h.2.2 hn).1 x hx
    have := h.1
    omega
  · rw [rows_no h]
    exact ⟨Nat.zero_le _, fun x hx => by cases hx⟩

/-- The lines, each with its newline. -/
def linesB (ls : List ByteArray) : List UInt8 := ls.flatMap fun x => x.data.toList ++ [10]
theorem linesB_take {ls : List ByteArray} {k : Nat} (h : k < ls.length) : linesB (ls.take (k + 1)) = linesB (ls.take k) ++ (ls[k].data.toList ++ [10]) := by
  unfold linesB
  rw [List.take_succ_eq_append_getElem h, List.flatMap_append]
  simp
theorem linesB_le : ∀ {ls : List ByteArray} {c : Nat}, (∀ x ∈ ls, x.size ≤ c) → (linesB ls).length ≤ ls.length * (c + 1)
  | [], c, _ => by simp [linesB]
  | x :: r, c, h => by
    have h1 := linesB_le (ls := r) (c := c) (fun y hy => h y (List.mem_cons_of_mem _ hy))
    have h2 := h x List.mem_cons_self
    have h3 : x.data.toList.length = x.size := by simp
    unfold linesB at h1 ⊢
    rw [List.flatMap_cons, List.length_append, List.length_append, List.length_singleton, List.length_cons, Nat.add_mul]
    omega
theorem linesB_take_le {ls : List ByteArray} {c N : Nat} (h : ∀ x ∈ ls, x.size ≤ c) (hn : ls.length ≤ N) (k : Nat) : (linesB (ls.take k)).length ≤ N * (c + 1) := by
  have h1 := linesB_le (ls := ls.take k) (c := c) (fun x hx => h x (List.mem_of_mem_take hx))
  have h2 : (ls.take k).length ≤ N := by rw [List.length_take]; omega
  exact Nat.le_trans h1 (Nat.mul_le_mul_right _ h2)
noncomputable def textI (t : T) : ByteArray := if (linesB (rowsT t)).length ≤ 20000 then ⟨(linesB (rowsT t)).toArray⟩ else ⟨#[]⟩
end Go.Proofs.YtbfkkaafkinpmaaGreatDoor.ind
