/- A round of impl.copyOf keeps what holds between two rounds. Over any program. -/
import Derived.Test.YtmldigfghiofkaaCpM
namespace Go.Proofs.Ytmldigfghiofkaa.tree
open Go Go.RowKit
set_option linter.unusedVariables false

/-- Six of the cells of kids. -/
theorem kid_cells {w : World} {f : Nat} {xs : List Value} {kids : List T} (h : LiesS w f xs (rows kids)) {i : Nat} (hi : i < kids.length) :
    ∃ us : List Value, us.length = 6 ∧ (∀ j u, us[j]? = some u → xs[i * 6 + j]? = some u) ∧ LiesS w f us (row kids[i]) := by
  have hl := h.1
  rw [rows_length] at hl
  have hb : ∀ j, j < 6 → i * 6 + j < xs.length := fun j hj => by omega
  refine ⟨(xs.drop (i * 6)).take 6, by rw [List.length_take, List.length_drop]; omega, fun j u hu => ?_, ⟨by rw [List.length_take, List.length_drop, row_length]; omega, fun j u d hu hd => ?_⟩⟩
  · have hj : j < 6 := by have := (List.getElem?_eq_some_iff.1 hu).1; rw [List.length_take] at this; omega
    rw [List.getElem?_take_of_lt hj, List.getElem?_drop] at hu
    exact hu
  · have hj : j < 6 := by have := (List.getElem?_eq_some_iff.1 hd).1; rw [row_length] at this; exact this
    rw [List.getElem?_take_of_lt hj, List.getElem?_drop] at hu
    exact h.2 (i * 6 + j) u d hu (by rw [rows_get kids i j hi hj]; exact hd)

theorem kidIts_mem {g : Nat} {kids : List T} : ∀ {n : Nat} {it : It}, n ≤ kids.length → it ∈ kidIts g kids n → ∃ i, ∃ h : i < kids.length, i < n ∧ it = (g, i * 6, kids[i])
  | n + 1, it, hn, h => by
    rcases List.mem_cons.1 h with rfl | h
    · exact ⟨n, by omega, by omega, by simp [List.getD, show n < kids.length by omega]⟩
    · obtain ⟨i, h1, h2, h3⟩ := kidIts_mem (by omega) h
      exact ⟨i, h1, by omega, h3⟩
theorem kidIts_apart (g : Nat) (kids : List T) : ∀ n, n ≤ kids.length → (kidIts g kids n).Pairwise Apart
  | 0, _ => List.Pairwise.nil
  | n + 1, hn => by
    refine List.Pairwise.cons (fun it hit _ => ?_) (kidIts_apart g kids n (by omega))
    obtain ⟨i, _, h2, rfl⟩ := kidIts_mem (by omega) hit
    right
    show i * 6 + 6 ≤ n * 6
    omega

theorem below_of_ne {w wr W2 : World} {B : Nat} (h : Below B w wr) (hk : Below wr.heap.size wr W2) (hB : B ≤ wr.heap.size) : Below B w W2 := h.trans (hk.mono hB)

/-- A round: the top's two lists are made anew (vk, v2), its kids pushed. -/
theorem cp_step {w w1 wr W2 W3 W5 W6 wD : World} {f : Nat} {t : T} {sb1 : Option Nat} {eP eS eT resT : TypeId} {zr : Array Value} {gs cap g o : Nat} {k : Int} {fl : Bool} {n : Int} {s : ByteArray} {ks : List ByteArray} {kids : List T} {todo : List It} {vk v2 r' : Value} {xs : List Value} {u4 u5 : Value} {cur : Array Value} {e : TypeId}
    (hC : CpS w w1 f t sb1 eP resT zr (.slice (some ⟨gs, 0, none⟩) (todo.length + 1) cap) wr ((g, o, .mk k fl n s ks kids) :: todo))
    (hg : wr.heap[g]? = some (.cells cur e (0, 0))) (hus : ∀ j u, [Value.int .i64 k, .bool fl, .int .i64 n, .string s, u4, u5][j]? = some u → cur[o + j]? = some u)
    (wk : (Lit.int .i64 k).wf = true) (wn : (Lit.int .i64 n).wf = true) (ws : s.size ≤ maxLen) (wks : ∀ x ∈ ks, x.size ≤ maxLen)
    (hb2 : Below wr.heap.size wr W2) (hks : W2.ownsRow wr.heap.size eS 1 vk ks.length (scells ks)) (hW3 : W3 = W2.setCell ⟨g, o + 4, none⟩ vk)
    (hb5 : Below W3.heap.size W3 W5) (hkids : W5.ownsRow W3.heap.size eT 6 v2 kids.length xs) (hxs : LiesS w f xs (rows kids)) (hW6 : W6 = W5.setCell ⟨g, o + 5, none⟩ v2)
    {gk : Nat} (hgk : ∀ b, v2.ownBlock = some b → b = gk) (hgk0 : kids ≠ [] → v2.ownBlock = some gk)
    (hI : InS w W6 gs gk kids todo eP kids.length r' wD) :
    CpS w w1 f t sb1 eP resT zr r' wD (kidIts gk kids kids.length ++ todo) := by
  obtain ⟨hg1, hg2, hg3, _⟩ := hC.it _ List.mem_cons_self
  have hglt := heap_lt hg
  have hgsg : gs ≠ g := fun e => hg3 (by rw [e]; rfl)
  obtain ⟨hgs1, hgs2⟩ := hC.own.lt gs rfl
  have hs3 : W3.heap.size = W2.heap.size := by rw [hW3]; simp
  have hs6 : W6.heap.size = W5.heap.size := by rw [hW6]; simp
  have hs23 := hb2.size
  have hs35 := hb5.size
  -- blocks that lay, through the round
  have hold : ∀ b, b < wr.heap.size → b ≠ g → W6.heap[b]? = wr.heap[b]? := fun b hb hne => by
    rw [hW6, Below.heap_setCell _ _ _ _ hne, hb5.block b (by omega), hW3, Below.heap_setCell _ _ _ _ hne, hb2.block b hb]
  have hg6 : W6.heap[g]? = some (.cells ((cur.setIfInBounds (o + 4) vk).setIfInBounds (o + 5) v2) e (0, 0)) := by
    rw [hW6]
    refine heap_setCell_same _ _ _ _ _ _ ?_
    rw [hb5.block g (by omega), hW3]
    refine heap_setCell_same _ _ _ _ _ _ ?_
    rw [hb2.block g hglt]
    exact hg
  have hbelow6 : Below w.heap.size wr W6 := by
    rw [hW6]
    refine Below.setCell ?_ (p := ⟨g, o + 5, none⟩) hg1 _
    refine Below.trans (Below.setCell (hb2.mono hC.bel.size) (p := ⟨g, o + 4, none⟩) hg1 vk) ?_
    rw [← hW3]
    exact hb5.mono (by have := hC.bel.size; omega)
  have hks6 : W6.ownsRow wr.heap.size eS 1 vk ks.length (scells ks) := by
    rw [hW6]
    refine ownsRow_setCell_below (own_below' (w := W3) ?_ hb5) (a := ⟨g, o + 5, none⟩) hglt v2
    rw [hW3]
    exact ownsRow_setCell_below hks (a := ⟨g, o + 4, none⟩) hglt vk
  have hkids6 : W6.ownsRow W3.heap.size eT 6 v2 kids.length xs := by
    rw [hW6]
    exact ownsRow_setCell_below hkids (a := ⟨g, o + 5, none⟩) (by show g < _; omega) v2
  have hkids6' : W6.ownsRow wr.heap.size eT 6 v2 kids.length xs := own_base hkids6 (by omega)
  -- to the end of the pushes
  have toD : ∀ {eX : TypeId} {size : Nat} {v : Value} {m : Nat} {ys : List Value}, W6.ownsRow wr.heap.size eX size v m ys → wD.ownsRow wr.heap.size eX size v m ys := fun {eX size v m ys} h => by
    refine ⟨h.1, ?_⟩
    rcases h.2 with h0 | ⟨b, cap, c, h1, h2, h3, h4⟩
    · exact .inl h0
    · exact .inr ⟨b, cap, c, h1, h2, (hI.keep b (heap_lt h3) (by omega)).trans h3, h4⟩
  have hvkb : ∀ b, vk.ownBlock = some b → b < W3.heap.size := fun b hb => by
    have := (hks.lt b hb).2
    omega
  have hv2b : ∀ b, v2.ownBlock = some b → W3.heap.size ≤ b ∧ b < W6.heap.size := fun b hb => hkids6.lt b hb
  have hob : ∀ b, b < W6.heap.size → b ≠ gs → r'.ownBlock ≠ some b := fun b hb hne e => by
    rcases hI.ob with h | ⟨b', h, h'⟩
    · rw [h] at e; injection e with e; exact hne e.symm
    · rw [h] at e; injection e with e; omega
  have hob6 : ∀ b, r'.ownBlock = some b → b ≠ g := fun b hb e => by
    subst e
    exact hob b (by omega) (fun e => hgsg e.symm) hb
  obtain ⟨hap, happ⟩ := List.pairwise_cons.1 hC.apart
  have hlow : ∀ it ∈ todo, it.1 < wr.heap.size := fun it hit => by
    obtain ⟨_, _, _, c, e', us, h1, _⟩ := hC.it it (List.mem_cons_of_mem _ hit)
    exact heap_lt h1
  refine ⟨?_, fun it hit => ?_, ?_, ?_, ?_, ?_, ?_, fun it hit => ?_, fun w' hw' => hC.wand w' ?_⟩
  · have h := hI.own
    rw [List.length_append, kidIts_length]
    exact h
  · rcases List.mem_append.1 hit with hit | hit
    · obtain ⟨i, hi, _, rfl⟩ := kidIts_mem (Nat.le_refl _) hit
      have hne : kids ≠ [] := fun e => by rw [e] at hi; simp at hi
      have hb := hgk0 hne
      obtain ⟨h1, h2⟩ := hv2b gk hb
      have hws := hC.bel.size
      have hsz := hC.sz
      refine ⟨by show w.heap.size ≤ gk; omega, by show gk ≠ _; omega, hob gk h2 (by omega), ?_⟩
      obtain ⟨cap', c', rfl, h3, h4, h5, h6, h7, h8⟩ := own_block hkids6 hb
      obtain ⟨us, hu1, hu2, hu3⟩ := kid_cells hxs hi
      refine ⟨c', eT, us, (hI.keep gk h2 (by omega)).trans h4, hu1, fun j u hu => ?_, hu3⟩
      have hj := hu2 j u hu
      rw [← h8, List.getElem?_take] at hj
      split at hj
      · simpa using hj
      · cases hj
    · obtain ⟨h1, h2, h3, c, e', us, h4, h5, h6, h7⟩ := hC.it it (List.mem_cons_of_mem _ hit)
      have hlt := hlow it hit
      have hgsi : it.1 ≠ gs := fun e => h3 (by rw [e]; rfl)
      refine ⟨h1, h2, hob it.1 (by omega) hgsi, ?_⟩
      have hk := hI.keep it.1 (by omega) hgsi
      by_cases hig : it.1 = g
      · have ha := hap it hit hig.symm
        rw [hig] at hk h4
        rw [hg] at h4
        injection h4 with h4
        injection h4 with e1 e2 e3
        subst e1 e2
        refine ⟨_, _, us, by rw [hig]; exact hk.trans hg6, h5, fun j u hu => ?_, h7⟩
        have hj : j < 6 := by have := (List.getElem?_eq_some_iff.1 hu).1; omega
        simp only at ha
        rw [Array.getElem?_setIfInBounds_ne (by omega), Array.getElem?_setIfInBounds_ne (by omega)]
        exact h6 j u hu
      · exact ⟨c, e', us, (hk.trans (hold it.1 hlt hig)).trans h4, h5, h6, h7⟩
  · refine List.pairwise_append.2 ⟨kidIts_apart gk kids _ (Nat.le_refl _), happ, fun a ha b hb e => ?_⟩
    obtain ⟨i, hi, _, rfl⟩ := kidIts_mem (Nat.le_refl _) ha
    have hne : kids ≠ [] := fun e => by rw [e] at hi; simp at hi
    have h1 := (hv2b gk (hgk0 hne)).1
    have h2 := hlow b hb
    have h3 : gk = b.1 := e
    omega
  · refine (hC.bel.trans hbelow6).trans ⟨hI.os, hI.tape, hI.output, hI.size, fun b hb => hI.keep b ?_ ?_⟩
    · have := hC.bel.size; omega
    · omega
  · rw [hI.keep _ (by have := hC.sz; omega) (by omega), hold _ (by have := hC.sz; omega) (fun e => hg2 e.symm)]
    exact hC.res
  · rw [sizesI_append, sizesI_kids gk kids _ (Nat.le_refl _), List.take_of_length_le (Nat.le_refl _)]
    have h := hC.bd
    rw [sizesI] at h
    simp only [size] at h
    omega
  · have h1 := hC.sz
    have h2 := hI.size
    omega
  · rcases List.mem_append.1 hit with hit | hit
    · obtain ⟨i, hi, _, rfl⟩ := kidIts_mem (Nat.le_refl _) hit
      have h1 := hC.wt _ List.mem_cons_self
      have h2 := weights_le_mem (List.getElem_mem hi)
      simp only [weight] at h1
      show weight kids[i] ≤ _
      omega
    · exact hC.wt it (List.mem_cons_of_mem _ hit)
  · refine fin_step (sb' := r'.ownBlock) (e1 := eS) (e2 := eT) (xs := xs) hC.bel.size (Nat.le_trans (by omega) hI.size) (hI.os.trans hbelow6.os) (hI.tape.trans hbelow6.tape) (hI.output.trans hbelow6.output)
      (fun b hb hne hsb => ?_) hg ((hI.keep g (by omega) (fun e => hgsg e.symm)).trans hg6) (fun e => hgsg (by injection e with e; exact e.symm)) (hus 0 _ rfl) (hus 1 _ rfl) (hus 2 _ rfl) (hus 3 _ rfl) ?_ wk wn ws wks (toD hks6) (fun b hb => ⟨?_, ?_⟩) (toD hkids6') (fun b hb => ?_) ?_ (fun it hit => ⟨hlow it hit, fun hig => ?_⟩) hgk hgk0 hw'
    · have hbgs : b ≠ gs := fun e => hsb (by rw [e]; rfl)
      rw [hI.keep b (by omega) hbgs, hold b hb hne]
    · exact (Array.getElem?_eq_some_iff.1 (hus 5 _ rfl)).1
    · have h1 := (hks.lt b hb).1
      have h2 := hvkb b hb
      exact fun e => hob b (by omega) (by omega) e.symm
    · intro e
      have h1 := (hv2b b e).1
      have h2 := hvkb b hb
      omega
    · have h1 := hv2b b hb
      exact fun e => hob b h1.2 (by omega) e.symm
    · rcases hI.ob with h | ⟨b, h, h'⟩
      · exact .inl h
      · exact .inr ⟨b, h, by omega⟩
    · have ha := hap it hit hig.symm
      simp only at ha
      omega
theorem rd_one (w : World) (u : Value) (e : TypeId) : Rd (w.alloc (.cells #[u] e)) (some ⟨w.heap.size, 0, none⟩) 1 [u] := by
  refine ⟨rfl, fun _ => ⟨w.heap.size, 0, rfl, by simp, fun j hj u' hu => ?_⟩⟩
  rw [cell_of_row _ w.heap.size (0 + j) #[u] e (0, 0) (heap_alloc_new w _)]
  simpa using hu
/-- One kid is pushed. -/
theorem in_step {w W6 wD W8 : World} {gs gk : Nat} {kids : List T} {todo : List It} {eP : TypeId} {j : Nat} {r r' : Value} {o : Obj} (h : InS w W6 gs gk kids todo eP j r wD)
    (hown : W8.ownsRow (w.heap.size + 2) eP 1 r' (j + todo.length + 1) (((kidIts gk kids j ++ todo).map ptr).reverse ++ [.pointer (some ⟨gk, j * 6, none⟩)])) (hgr : (wD.alloc o).grownBy W8 r.ownBlock) (hat : r'.ownBlock = r.ownBlock ∨ r'.ownBlock = some (wD.alloc o).heap.size) :
    InS w W6 gs gk kids todo eP (j + 1) r' W8 := by
  have hs := h.size
  have hsa : (wD.alloc o).heap.size = wD.heap.size + 1 := by simp
  refine ⟨?_, hgr.os.trans h.os, hgr.tape.trans h.tape, hgr.output.trans h.output, by have := hgr.size; omega, fun b hb hne => ?_, ?_⟩
  · have e1 : ((kidIts gk kids (j + 1) ++ todo).map ptr).reverse = ((kidIts gk kids j ++ todo).map ptr).reverse ++ [.pointer (some ⟨gk, j * 6, none⟩)] := by
      rw [kidIts, List.cons_append, List.map_cons, List.reverse_cons]
      rfl
    rw [e1, show j + 1 + todo.length = j + todo.length + 1 by omega]
    exact hown
  · rw [hgr.block b (by omega) (fun e => ?_), Below.heap_alloc _ _ _ (by omega)]
    · exact h.keep b hb hne
    · rcases h.ob with h1 | ⟨b', h1, h2⟩
      · rw [h1] at e; injection e with e; exact hne e
      · rw [h1] at e; injection e with e; omega
  · rcases hat with h1 | h1
    · rw [h1]; exact h.ob
    · exact .inr ⟨_, h1, by omega⟩
end Go.Proofs.Ytmldigfghiofkaa.tree
