/- Merged: OwnF QuoteI. -/
import Derived.Test.YtbfkkaafkinpmaaGreatDoorBase
import Derived.Lib.AppendStr
import Derived.Lib.SlBytesConst
import Derived.Test.YtbfkkaafkinpmaaGreatDoorGRnI
import Derived.Test.YtbfkkaafkinpmaaGreatDoorGSc
import Derived.Test.YtbfkkaafkinpmaaGreatDoorGArith
import Derived.Test.YtbfkkaafkinpmaaGreatDoorShelf
namespace Go.Proofs.YtbfkkaafkinpmaaGreatDoor
open Go Go.RowKit
set_option linter.unusedVariables false

def OwnF (w : World) (B : Nat) (e : TypeId) (v : Value) (n : Nat) (xs : List Value) : Prop :=
  w.ownsRow B e 1 v n xs ∨ (xs.length = n ∧ ∃ g cs fz, v = .slice (some ⟨g, 0, none⟩) n n ∧ B ≤ g ∧ w.heap[g]? = some (.cells cs e fz) ∧ cs.toList = xs)
theorem OwnF.lt {w : World} {B : Nat} {e : TypeId} {v : Value} {n : Nat} {xs : List Value} (h : OwnF w B e v n xs) : ∀ k, v.ownBlock = some k → B ≤ k ∧ k < w.heap.size := by
  rcases h with h | ⟨_, g, cs, fz, rfl, hb, hg, _⟩
  · exact h.lt
  · intro k hk
    simp [Value.ownBlock] at hk
    subst hk
    exact ⟨hb, (Array.getElem?_eq_some_iff.1 hg).1⟩
theorem OwnF.alloc {w : World} {B : Nat} {e : TypeId} {v : Value} {n : Nat} {xs : List Value} (h : OwnF w B e v n xs) (o : Obj) : OwnF (w.alloc o) B e v n xs := by
  rcases h with h | ⟨h1, g, cs, fz, h2, h3, h4, h5⟩
  · exact .inl (h.alloc o)
  · exact .inr ⟨h1, g, cs, fz, h2, h3, by rw [heap_alloc_old w o (Array.getElem?_eq_some_iff.1 h4).1]; exact h4, h5⟩
theorem OwnF.below {w w' : World} {B : Nat} {e : TypeId} {v : Value} {n : Nat} {xs : List Value} (h : OwnF w B e v n xs) (hb : Below w.heap.size w w') : OwnF w' B e v n xs := by
  rcases h with h | ⟨h1, g, cs, fz, h2, h3, h4, h5⟩
  · refine .inl (h.kept (grown_of_below hb none) ?_)
    by_cases hv : v.ownBlock = none
    · exact .inl hv
    · exact .inr hv
  · exact .inr ⟨h1, g, cs, fz, h2, h3, heap_kept hb (Array.getElem?_eq_some_iff.1 h4).1 h4, h5⟩
theorem OwnF.cellAt {w : World} {g : Nat} {cs : Array Value} {e : TypeId} {fz : Nat × Nat} {xs : List Value} (hg : w.heap[g]? = some (.cells cs e fz)) (hx : cs.toList = xs) : ∀ j u, xs[j]? = some u → w.cell? ((⟨g, 0, none⟩ : Addr).add j) = some u := by
  intro j u hu
  have hadd : (⟨g, 0, none⟩ : Addr).add j = ⟨g, j, none⟩ := by unfold Addr.add; split <;> simp_all
  rw [hadd, cell_of_row w g j cs e fz hg, ← Array.getElem?_toList, hx]
  exact hu

theorem run_append_ownF {P : Program} (w : World) (base : Nat) (t ty e : TypeId) (i : TypeInfo) (z : Value) (bytes : Nat) (ht : P.underlying t = some (.slice e)) (hi : P.info? e = some i) (hz : i.zero = some z)
    (hsize : i.size = 1) (hby : i.bytes = bytes) (hzs : z.cells.size = 1)
    (v : Value) (n : Nat) (xs : List Value) (hown : OwnF w base e v n xs)
    (a : Addr) (m c : Nat) (news : List Value) (hm : 0 < m) (hl : news.length = m) (hnews : ∀ j u, news[j]? = some u → w.cell? (a.add j) = some u) (h1 : ∀ u ∈ news, u.oneCell' = true)
    (h63 : n + m ≤ maxLen) (hbytes : (n + m) * bytes ≤ 140737488355328) (hbase : base ≤ w.heap.size) :
    ∃ v' w', (Builtin.append_ #[t, t] ty #[v, .slice (some a) m c]).run P w = .ok v' w' ∧ w'.ownsRow base e 1 v' (n + m) (xs ++ news) ∧ w.grownBy w' v.ownBlock := by
  have hl1 : news.length = m * 1 := by omega
  rcases hown with hown | ⟨hx, g, cs, fz, rfl, hb, hg, hcs⟩
  · obtain ⟨v', w', r1, r2, r3, _⟩ := run_append_own (P := P) w base t ty e i z 1 bytes ht hi hz hsize hby hzs (by decide) v n xs hown a m c news hl1 hnews h1 h63 hbytes hbase
    exact ⟨v', w', r1, r2, r3⟩
  · subst hby
    have hsmall : n + m ≤ 9223372036854775807 := by simp only [maxLen] at h63; omega
    have hr := run_append_grow (P := P) w t ty e i z ht hi hz ⟨g, 0, none⟩ n n xs (by rw [hsize]; omega) (OwnF.cellAt hg hcs) a m c news (by rw [hsize]; exact hl1) hnews (by omega) (by omega) (growslice_fits (by omega) hbytes)
    have hge := grownCap_ge w (n + m) n e
    have hcm : grownCap w (n + m) n e ≤ maxLen := grownCap_le_maxLen w (n + m) n e h63
    refine ⟨_, _, hr, ⟨by rw [List.length_append]; omega, .inr ⟨w.heap.size, _, _, rfl, hbase, heap_alloc_new w.drew _, hge, hcm, ?_, ?_⟩⟩, ⟨rfl, rfl, rfl, by simp, fun k hk _ => heap_alloc_old w.drew _ hk⟩⟩
    · simp only [Array.size_append, List.size_toArray, size_zeroCells, hzs, hx, hl]
      omega
    · simp only [Array.toList_append, List.append_assoc]
      rw [← List.append_assoc, show (n + m) * 1 = (xs ++ news).length by rw [List.length_append]; omega]
      exact List.take_left
theorem run_append_ownF_string {P : Program} (w : World) (base : Nat) (t u ty e : TypeId) (i : TypeInfo) (ht : P.underlying t = some (.slice e)) (hu : P.underlying u = some .string) (hi : P.info? e = some i) (hz : i.zero = some (.int .u8 0))
    (hsize : i.size = 1) (hby : i.bytes = 1)
    (v : Value) (n : Nat) (xs : List Value) (hown : OwnF w base e v n xs) (s : ByteArray) (hs : 0 < s.size)
    (h63 : n + s.size ≤ maxLen) (hbytes : n + s.size ≤ 140737488355328) (hbase : base ≤ w.heap.size) :
    ∃ v' w', (Builtin.append_ #[t, u] ty #[v, .string s]).run P w = .ok v' w' ∧ w'.ownsRow base e 1 v' (n + s.size) (xs ++ Lib.strCells s) ∧ w.grownBy w' v.ownBlock := by
  rcases hown with hown | ⟨hx, g, cs, fz, rfl, hb, hg, hcs⟩
  · obtain ⟨v', w', r1, r2, r3, _⟩ := Lib.run_append_own_string (P := P) w base t u ty e i ht hu hi hz hsize hby v n xs hown s h63 hbytes hbase
    exact ⟨v', w', r1, r2, r3⟩
  · have hsmall : n + s.size ≤ 9223372036854775807 := by simp only [maxLen] at h63; omega
    have hr := Lib.run_append_grow_string (P := P) w t u ty e i (.int .u8 0) ht hu hi hz ⟨g, 0, none⟩ n n xs (by rw [hsize]; omega) (OwnF.cellAt hg hcs) s (by omega) (by omega) (by rw [hby]; exact growslice_fits (by omega) (by omega))
    have hge := grownCap_ge w (n + s.size) n e
    have hcm : grownCap w (n + s.size) n e ≤ maxLen := grownCap_le_maxLen w (n + s.size) n e h63
    have hsl := Lib.strCells_length s
    refine ⟨_, _, hr, ⟨by rw [List.length_append]; omega, .inr ⟨w.heap.size, _, _, rfl, hbase, heap_alloc_new w.drew _, hge, hcm, ?_, ?_⟩⟩, ⟨rfl, rfl, rfl, by simp, fun k hk _ => heap_alloc_old w.drew _ hk⟩⟩
    · have hz1 : (Value.int IntKind.u8 0).cells.size = 1 := rfl
      simp only [Array.size_append, List.size_toArray, size_zeroCells, hz1, hx, hsl]
      omega
    · simp only [Array.toList_append, List.append_assoc]
      rw [← List.append_assoc, show (n + s.size) * 1 = (xs ++ Lib.strCells s).length by rw [List.length_append]; omega]
      exact List.take_left

theorem step_append_ownF {P : Program} {ops : Array Oper} {o : Oper} {a : Act} {w : World} {K : Act → World → Prop} {Q : Exit → Act → World → Prop} {E : Prop}
    (hg : o.guard = none) (s x : Operand) (t : TypeId) (hop : o.op = Op.call { callee := Callee.builtin Builtin.append, args := #[s, x], argTypes := #[t, t] })
    (B : Nat) (e : TypeId) (i : TypeInfo) (z : Value) (bytes : Nat) (h1 : P.underlying t = some (.slice e)) (h2 : P.info? e = some i) (h3 : i.zero = some z) (h4 : i.size = 1) (h5 : i.bytes = bytes) (h6 : z.cells.size = 1)
    (v : Value) (n : Nat) (xs : List Value) (hs : a.eval s = v) (hown : OwnF w B e v n xs)
    (ad : Addr) (m c : Nat) (news : List Value) (hx : a.eval x = .slice (some ad) m c) (hm : 0 < m) (hn : news.length = m) (hc : ∀ j u, news[j]? = some u → w.cell? (ad.add j) = some u) (h1c : ∀ u ∈ news, u.oneCell' = true)
    (b1 : n + m ≤ maxLen) (b2 : (n + m) * bytes ≤ 140737488355328) (b3 : B ≤ w.heap.size)
    (hK : ∀ v' w', w'.ownsRow B e 1 v' (n + m) (xs ++ news) → w.grownBy w' v.ownBlock → K (a.put o.dst v') w') :
    if Region.wanted o (yielded ops a.tmps) = true then Oper.wp P o a w K Q else E := by
  have hw : Region.wanted o (yielded ops a.tmps) = true := by simp [Region.wanted, hg]
  rw [if_pos hw]
  obtain ⟨v', w', hrun, r1, r2⟩ := run_append_ownF (P := P) w B t o.type e i z bytes h1 h2 h3 h4 h5 h6 v n xs hown ad m c news hm hn hc h1c b1 b2 b3
  unfold Oper.wp
  simp [execOp, hop, resolve, invoke, builtin, hs, hx, hrun, Result.andThen]
  exact hK v' w' r1 r2
theorem wpList_append_ownF {P : Program} {w : World} {ops : Array Oper} {rest : List Oper} {o : Oper} {a : Act} {Q : Exit → Act → World → Prop} (hgd : o.guard = none) (s x : Operand) (t : TypeId)
    (ho : o.op = .call { callee := .builtin .append, args := #[s, x], argTypes := #[t, t] })
    (base : Nat) (e : TypeId) (i : TypeInfo) (z : Value) (bytes : Nat) (ht : P.underlying t = some (.slice e)) (hi : P.info? e = some i) (hz : i.zero = some z)
    (hsize : i.size = 1) (hby : i.bytes = bytes) (hzs : z.cells.size = 1)
    (v : Value) (n : Nat) (xs : List Value) (hs : a.eval s = v) (hown : OwnF w base e v n xs)
    (ad : Addr) (m c : Nat) (news : List Value) (hx : a.eval x = .slice (some ad) m c) (hm : 0 < m) (hl : news.length = m) (hnews : ∀ j u, news[j]? = some u → w.cell? (ad.add j) = some u) (h1 : ∀ u ∈ news, u.oneCell' = true)
    (h63 : n + m ≤ maxLen) (hbytes : (n + m) * bytes ≤ 140737488355328) (hbase : base ≤ w.heap.size)
    (h : ∀ v' w', w'.ownsRow base e 1 v' (n + m) (xs ++ news) → w.grownBy w' v.ownBlock → wpList P ops Q rest (a.put o.dst v') w') : wpList P ops Q (o :: rest) a w := by
  refine wpList_plain hgd fun K hK => ?_
  obtain ⟨v', w', hr, h2, h3⟩ := run_append_ownF (P := P) w base t o.type e i z bytes ht hi hz hsize hby hzs v n xs hown ad m c news hm hl hnews h1 h63 hbytes hbase
  unfold Oper.wp execOp
  simp only [ho, resolve, invoke, builtin, Sem.run_bind, Sem.run_pure, Result.andThen_ok, List.map_toArray, List.map_cons, List.map_nil, hs, hx, hr]
  exact hK _ _ (h v' w' h2 h3)
theorem wpList_append_ownF_string {P : Program} {w : World} {ops : Array Oper} {rest : List Oper} {o : Oper} {a : Act} {Q : Exit → Act → World → Prop} (hgd : o.guard = none) (sl x : Operand) (t u : TypeId)
    (ho : o.op = .call { callee := .builtin .append, args := #[sl, x], argTypes := #[t, u] })
    (base : Nat) (e : TypeId) (i : TypeInfo) (ht : P.underlying t = some (.slice e)) (hu : P.underlying u = some .string) (hi : P.info? e = some i) (hz : i.zero = some (.int .u8 0))
    (hsize : i.size = 1) (hby : i.bytes = 1)
    (v : Value) (n : Nat) (xs : List Value) (hs : a.eval sl = v) (hown : OwnF w base e v n xs) (s : ByteArray) (hx : a.eval x = .string s) (hp : 0 < s.size)
    (h63 : n + s.size ≤ maxLen) (hbytes : n + s.size ≤ 140737488355328) (hbase : base ≤ w.heap.size)
    (h : ∀ v' w', w'.ownsRow base e 1 v' (n + s.size) (xs ++ Lib.strCells s) → w.grownBy w' v.ownBlock → wpList P ops Q rest (a.put o.dst v') w') : wpList P ops Q (o :: rest) a w := by
  refine wpList_plain hgd fun K hK => ?_
  obtain ⟨v', w', hr, h2, h3⟩ := run_append_ownF_string (P := P) w base t u o.type e i ht hu hi hz hsize hby v n xs hown s hp h63 hbytes hbase
  unfold Oper.wp execOp
  simp only [ho, resolve, invoke, builtin, Sem.run_bind, Sem.run_pure, Result.andThen_ok, List.map_toArray, List.map_cons, List.map_nil, hs, hx, hr]
  exact hK _ _ (h v' w' h2 h3)
end Go.Proofs.YtbfkkaafkinpmaaGreatDoor
namespace Go.Proofs.YtbfkkaafkinpmaaGreatDoor.quote
open Go.ChangeShapes Go.WideShapes Go.ChangeAt Go.RowKit
set_option linter.unusedVariables false

theorem and15_all : ∀ n : Fin 256, bits BinOp.and IntKind.u8 (n.val : Int) 15 = (n.val : Int) % 16 := by decide +kernel
theorem and15 (x : Int) (h0 : 0 ≤ x) (h : x < 256) : bits BinOp.and IntKind.u8 x 15 = x % 16 := by
  obtain ⟨n, rfl⟩ := Int.eq_ofNat_of_zero_le h0
  exact and15_all ⟨n, by omega⟩
def hexB : ByteArray := ⟨#[48, 49, 50, 51, 52, 53, 54, 55, 56, 57, 97, 98, 99, 100, 101, 102]⟩
theorem hexB_all : ∀ n : Fin 16, hexB.data[n.val]?.map (·.toNat) = some (fg n.val).toNat := by decide +kernel
theorem hexB_get (n : Nat) (hn : n < 16) (z : Int) (hz : z.toNat = n) : ∀ h, ((⟨#[48, 49, 50, 51, 52, 53, 54, 55, 56, 57, 97, 98, 99, 100, 101, 102]⟩ : ByteArray)[z.toNat]'h).toNat = (fg n).toNat := by
  intro h
  subst hz
  have h1 := hexB_all ⟨z.toNat, hn⟩
  have h2 : z.toNat < hexB.data.size := h
  rw [Array.getElem?_eq_getElem h2] at h1
  simp only [Option.map_some, Option.some.injEq] at h1
  exact h1
def idxE (x : Int) : Int := if x = 34 then 0 else if x = 92 then 1 else if x = 8 then 2 else if x = 12 then 3 else if x = 10 then 4 else if x = 13 then 5 else if x = 9 then 6 else -1
theorem index_all : ∀ n : Fin 256, Lib.indexByte [34, 92, 8, 12, 10, 13, 9] (UInt8.ofNat n.val) = idxE (n.val : Int) := by decide +kernel
theorem index_esc (x : Int) (w : World) (h0 : 0 ≤ x) (h1 : x < 256) :
    Calls Tryz.prog 81 #[.string ⟨#[34, 92, 8, 12, 10, 13, 9]⟩, .int .u8 x] w fun e w' => e = .returned (.int .i64 (idxE x)) ∧ w = w' := by
  refine (Tryz.strings_IndexByte _ x w).mono ?_
  rintro e w' ⟨rfl, rfl⟩
  have h := index_all ⟨x.toNat, by omega⟩
  refine ⟨ret_int ?_, rfl⟩
  have hx : ((x.toNat : Nat) : Int) = x := by omega
  simp only [hx] at h
  exact h

set_option maxRecDepth 100000 in
theorem with_esc (x i : Int) (c : UInt8) (B : Nat) (v : Value) (n : Nat) (l : List UInt8) (w : World) (hB : B ≤ w.heap.size) (hn : n ≤ 8000000) (hown : OwnF w B 5 v n (bcells l))
    (h0 : 0 ≤ x) (h1 : x < 256) (hx : idxE x = i) (hi0 : 0 ≤ i) (hi1 : i < 7) (hc : ∀ h, ((⟨#[34, 92, 98, 102, 110, 114, 116]⟩ : ByteArray)[i.toNat]'h).toNat = c.toNat) :
    Calls Tryz.prog 73 #[v, .int .u8 x] w fun e w' => ∃ v', e = .returned v' ∧ w'.ownsRow B 5 1 v' (n + 2) (bcells (l ++ [92, c])) ∧ Below B w w' := by
  obtain ⟨i0, hi, hz0, hz1, hz2⟩ := info_parts binfo.Tryzinfo
  have HI := Lib.hid (index_esc x w h0 h1)
  rw [hx] at HI
  have hk : ∀ h, ((⟨#[92]⟩ : ByteArray)[(0 : Int).toNat]'h).toNat = 92 := fun _ => rfl
  have Hbel := Lib.hid ((Below.refl w.heap.size w).mono hB)
  clear hx
  go_enter Tryz.func73, Tryz.ntmps73
  go_wp2_with fail
  refine HI.out.mono ?_
  rintro e w1 ⟨rfl, rfl⟩
  clear HI
  go_wp2_with fail
  go_region_law (refine step_append_ownF rfl (.tmp 10) (.tmp 14) 45 rfl B 5 i0 (.int .u8 0) 1 Tryz.underlying45 hi hz0 hz1 hz2 rfl _ n _ rfl (hown.alloc _) ⟨w.heap.size, 0, none⟩ 2 2 (bcells [92, c]) rfl (by decide) rfl (by exact lit_cells _ _ _) (bcells_one _) (by unfold maxLen; omega) (by omega) (by simp; omega) ?_; intro v2 w2 hown2 hg2)
  all_goals
    have hbel2 : Below B w w2 := ((Hbel.out.alloc hB _).drew).grown hg2 (by simp; omega) (fun b hb => (hown.lt b hb).1)
    rw [← bcells_append] at hown2
    clear hown hg2 hc hk
    go_wp2_with fail
    go_ret
    exact ⟨_, rfl, hown2, hbel2⟩

set_option maxRecDepth 100000 in
theorem with_hex (x : Int) (B : Nat) (v : Value) (n : Nat) (l : List UInt8) (w : World) (hB : B ≤ w.heap.size) (hn : n ≤ 8000000) (hown : OwnF w B 5 v n (bcells l))
    (h0 : 0 ≤ x) (h1 : x < 32) (hx : idxE x = -1) :
    Calls Tryz.prog 73 #[v, .int .u8 x] w fun e w' => ∃ v', e = .returned v' ∧ w'.ownsRow B 5 1 v' (n + 2 + 4) (bcells (l ++ [92, 117] ++ [48, 48, fg (x / 16).toNat, fg (x % 16).toNat])) ∧ Below B w w' := by
  obtain ⟨i0, hi, hz0, hz1, hz2⟩ := info_parts binfo.Tryzinfo
  have HI := Lib.hid (index_esc x w h0 (by omega))
  rw [hx] at HI
  have hx1 : 0 ≤ x / 16 ∧ x / 16 < 16 := by omega
  have hx2 : 0 ≤ x % 16 ∧ x % 16 < 16 := by omega
  have ha := and15 x h0 (by omega)
  have hd1 := hexB_get (x / 16).toNat (by omega) (x / 16) rfl
  have hd2 := hexB_get (x % 16).toNat (by omega) (x % 16) rfl
  have Hbel := Lib.hid ((Below.refl w.heap.size w).mono hB)
  generalize fg (x / 16).toNat = f1 at hd1 ⊢
  generalize fg (x % 16).toNat = f2 at hd2 ⊢
  go_enter Tryz.func73, Tryz.ntmps73
  go_wp2_with fail
  refine HI.out.mono ?_
  rintro e w1 ⟨rfl, rfl⟩
  clear HI
  go_wp2_with (first | (at_builtin; refine wpList_append_ownF_string rfl (.tmp 18) (.const (.string ⟨#[92, 117]⟩)) 45 9 rfl B 5 i0 Tryz.underlying45 Tryz.underlying9 hi hz0 hz1 hz2 _ n _ rfl hown ⟨#[92, 117]⟩ rfl (by decide) (by unfold maxLen; show n + 2 ≤ _; omega) (by show n + 2 ≤ _; omega) (by omega) ?_) | fail)
  intro v3 w3 hown3 hg3
  have hbel3 : Below B w w3 := Hbel.out.grown hg3 hB (fun b hb => (hown.lt b hb).1)
  rw [show Lib.strCells ⟨#[92, 117]⟩ = bcells [92, 117] from rfl, ← bcells_append] at hown3
  have hB3 : B ≤ w3.heap.size := by have := hg3.size; omega
  clear hown hg3
  go_wp2_with fail
  go_region_law (refine step_append_own rfl (.tmp 20) (.tmp 27) 45 rfl B 5 i0 (.int .u8 0) 1 1 Tryz.underlying45 hi hz0 hz1 hz2 rfl (by decide) _ (n + 2) _ rfl (hown3.alloc _) ⟨w3.heap.size, 0, none⟩ 4 4 (bcells [48, 48, f1, f2]) rfl rfl (by exact lit_cells _ _ _) (bcells_one _) (by unfold maxLen; omega) (by omega) (by simp; omega) ?_; intro v2 w2 hown2 hg2)
  all_goals
    have hbel2 : Below B w w2 := ((hbel3.alloc hB3 _).drew).grown hg2 (by simp; omega) (fun b hb => (hown3.lt b hb).1)
    rw [← bcells_append] at hown2
    clear hown3 hg2 hd1 hd2 ha
    go_wp2_with fail
    go_ret
    exact ⟨_, rfl, hown2, hbel2⟩

set_option maxRecDepth 100000 in
theorem with_one (x : Int) (b : UInt8) (hb : x = b.toNat) (B : Nat) (v : Value) (n : Nat) (l : List UInt8) (w : World) (hB : B ≤ w.heap.size) (hn : n ≤ 8000000) (hown : OwnF w B 5 v n (bcells l))
    (h0 : 32 ≤ x) (h1 : x < 256) (hx : idxE x = -1) :
    Calls Tryz.prog 73 #[v, .int .u8 x] w fun e w' => ∃ v', e = .returned v' ∧ w'.ownsRow B 5 1 v' (n + 1) (bcells (l ++ [b])) ∧ Below B w w' := by
  obtain ⟨i0, hi, hz0, hz1, hz2⟩ := info_parts binfo.Tryzinfo
  have HI := Lib.hid (index_esc x w (by omega) h1)
  rw [hx] at HI
  have Hbel := Lib.hid ((Below.refl w.heap.size w).mono hB)
  have Hb := Lib.hid hb
  clear hb
  go_enter Tryz.func73, Tryz.ntmps73
  go_wp2_with fail
  refine HI.out.mono ?_
  rintro e w1 ⟨rfl, rfl⟩
  clear HI
  go_wp2_with (first | (at_builtin; refine wpList_append_ownF rfl (.tmp 29) (.tmp 31) 45 rfl B 5 i0 (.int .u8 0) 1 Tryz.underlying45 hi hz0 hz1 hz2 rfl _ n _ rfl (hown.alloc _) ⟨w.heap.size, 0, none⟩ 1 1 [.int .u8 x] rfl (by decide) rfl (by exact lit_cells _ _ _) (binfo.one_cell _) (by unfold maxLen; omega) (by omega) (by simp; omega) ?_) | fail)
  intro v2 w2 hown2 hg2
  have hbel2 : Below B w w2 := (Hbel.out.alloc hB _).grown hg2 (by simp; omega) (fun b hb => (hown.lt b hb).1)
  rw [Hb.out, show ([.int .u8 (b.toNat : Int)] : List Value) = bcells [b] from rfl, ← bcells_append] at hown2
  clear hown hg2
  go_wp2_with fail
  go_ret
  exact ⟨_, rfl, hown2, hbel2⟩

theorem idx_cases (x : Int) : x = 34 ∨ x = 92 ∨ x = 8 ∨ x = 12 ∨ x = 10 ∨ x = 13 ∨ x = 9 ∨ (idxE x = -1 ∧ x ≠ 34 ∧ x ≠ 92 ∧ x ≠ 8 ∧ x ≠ 12 ∧ x ≠ 10 ∧ x ≠ 13 ∧ x ≠ 9) := by
  by_cases h1 : x = 34; · exact .inl h1
  by_cases h2 : x = 92; · exact .inr (.inl h2)
  by_cases h3 : x = 8; · exact .inr (.inr (.inl h3))
  by_cases h4 : x = 12; · exact .inr (.inr (.inr (.inl h4)))
  by_cases h5 : x = 10; · exact .inr (.inr (.inr (.inr (.inl h5))))
  by_cases h6 : x = 13; · exact .inr (.inr (.inr (.inr (.inr (.inl h6)))))
  by_cases h7 : x = 9; · exact .inr (.inr (.inr (.inr (.inr (.inr (.inl h7))))))
  refine .inr (.inr (.inr (.inr (.inr (.inr (.inr ⟨?_, h1, h2, h3, h4, h5, h6, h7⟩))))))
  unfold idxE
  rw [if_neg h1, if_neg h2, if_neg h3, if_neg h4, if_neg h5, if_neg h6, if_neg h7]
theorem byte_of (b : UInt8) (n : Nat) (h : (b.toNat : Int) = n) (hn : n < 256) : b = UInt8.ofNat n := by
  apply UInt8.toNat.inj
  simp
  omega
/-- A byte behind what is there. -/
theorem with_any (b : UInt8) (B : Nat) (v : Value) (n : Nat) (l : List UInt8) (w : World) (hB : B ≤ w.heap.size) (hn : n ≤ 8000000) (hown : OwnF w B 5 v n (bcells l)) :
    Calls Tryz.prog 73 #[v, .int .u8 (b.toNat : Int)] w fun e w' => ∃ v', e = .returned v' ∧ w'.ownsRow B 5 1 v' (n + (qB b).length) (bcells (l ++ qB b)) ∧ Below B w w' := by
  have hb := b.toNat_lt
  rcases idx_cases (b.toNat : Int) with h | h | h | h | h | h | h | ⟨h, h1, h2, h3, h4, h5, h6, h7⟩
  · obtain rfl := byte_of b 34 h (by omega); exact with_esc 34 0 34 B v n l w hB hn hown (by decide) (by decide) rfl (by decide) (by decide) (fun _ => rfl)
  · obtain rfl := byte_of b 92 h (by omega); exact with_esc 92 1 92 B v n l w hB hn hown (by decide) (by decide) rfl (by decide) (by decide) (fun _ => rfl)
  · obtain rfl := byte_of b 8 h (by omega); exact with_esc 8 2 98 B v n l w hB hn hown (by decide) (by decide) rfl (by decide) (by decide) (fun _ => rfl)
  · obtain rfl := byte_of b 12 h (by omega); exact with_esc 12 3 102 B v n l w hB hn hown (by decide) (by decide) rfl (by decide) (by decide) (fun _ => rfl)
  · obtain rfl := byte_of b 10 h (by omega); exact with_esc 10 4 110 B v n l w hB hn hown (by decide) (by decide) rfl (by decide) (by decide) (fun _ => rfl)
  · obtain rfl := byte_of b 13 h (by omega); exact with_esc 13 5 114 B v n l w hB hn hown (by decide) (by decide) rfl (by decide) (by decide) (fun _ => rfl)
  · obtain rfl := byte_of b 9 h (by omega); exact with_esc 9 6 116 B v n l w hB hn hown (by decide) (by decide) rfl (by decide) (by decide) (fun _ => rfl)
  · by_cases c : (b.toNat : Int) < 32
    · have e : qB b = [92, 117] ++ [48, 48, fg ((b.toNat : Int) / 16).toNat, fg ((b.toNat : Int) % 16).toNat] := by
        unfold qB esc
        rw [if_neg (by omega), if_neg (by omega), if_neg (by omega), if_neg (by omega), if_neg (by omega), if_neg (by omega), if_neg (by omega), if_pos (by omega)]
        have e1 : b.toNat / 16 = ((b.toNat : Int) / 16).toNat := by omega
        have e2 : b.toNat % 16 = ((b.toNat : Int) % 16).toNat := by omega
        rw [e1, e2]
        rfl
      rw [e, ← List.append_assoc]
      exact with_hex (b.toNat : Int) B v n l w hB hn hown (by omega) c h
    · have e : qB b = [b] := by
        unfold qB esc
        rw [if_neg (by omega), if_neg (by omega), if_neg (by omega), if_neg (by omega), if_neg (by omega), if_neg (by omega), if_neg (by omega), if_neg (by omega)]
        rfl
      rw [e]
      exact with_one (b.toNat : Int) b rfl B v n l w hB hn hown (by omega) (by omega) h

set_option maxRecDepth 100000 in
theorem impl_quoted (s : ByteArray) (w : World) (hs : s.size ≤ 1048576) (hT : rune.Tabs w) :
    Calls Tryz.prog 62 #[.string s] w fun e w' => e = .returned (.string (quotedF s)) ∧ Below w.heap.size w w' := by
  obtain ⟨i0, hi, hz0, hz1, hz2⟩ := info_parts binfo.Tryzinfo
  have HR := Lib.hid (rune.impl_utf s w hs hT)
  clear hT
  cases hrf : rune.runesF s with
  | none =>
    rw [quoted_no hrf]
    simp only [(rune.res_none hrf).2] at HR
    clear hrf hi hz0 hz1 hz2
    go_enter Tryz.func62, Tryz.ntmps62
    go_wp2_with fail
    refine HR.out.mono ?_
    rintro e w1 ⟨rfl, hb⟩
    clear HR
    go_wp2_with fail
    go_ret
    exact ⟨rfl, hb⟩
  | some l0 =>
    rw [quoted_yes hrf]
    simp only [(rune.res_some hrf).2] at HR
    clear hrf
    go_enter Tryz.func62, Tryz.ntmps62
    go_wp2_with fail
    refine HR.out.mono ?_
    rintro e w1 ⟨rfl, hb⟩
    have hown1 : OwnF (w1.alloc (.cells #[.int .u8 34] 5 (1, 2))) w1.heap.size 5 (.slice (some ⟨w1.heap.size, 0, none⟩) 1 1) 1 (bcells [34]) := .inr ⟨rfl, w1.heap.size, _, _, rfl, Nat.le_refl _, heap_alloc_new w1 _, rfl⟩
    have Hown := Lib.hid hown1
    have Hb := Lib.hid ((Below.refl w1.heap.size w1).alloc (Nat.le_refl _) (.cells #[.int .u8 34] 5 (1, 2)))
    have Hb1 := Lib.hid hb
    have hcs := Lib.run_convert_bytes_const (P := Tryz.prog) w1 45 5 #[.int .u8 34] 1 1 Tryz.underlying45 Tryz.underlying5
    clear hown1 HR hb
    go_wp2_with fail
    clear hcs
    go_loopw [3, 12] (fun v i wr => ∃ (k m : Nat) (bs : List UInt8), k ≤ s.size ∧ i = .int .i64 k ∧ m ≤ 1 + 6 * k ∧ bs.length = m ∧ Hid (bs = 34 :: byB (s.data.toList.take k)) ∧ OwnF wr w1.heap.size 5 v m (bcells bs) ∧ Below w1.heap.size w1 wr) (fun _ i _ => s.size - (intOf i).toNat)
    case atStart => exact ⟨0, 1, [34], Nat.zero_le _, rfl, by omega, rfl, rfl, Hown.out, Hb.out⟩
    case round =>
      clear Hown Hb
      obtain ⟨k, m, bs, hk, rfl, hm, hlen, hbs, hown, hbel⟩ := hrel
      by_cases hlt : k < s.size
      · have Hj : Hid (bs ++ qB s[k] = 34 :: byB (s.data.toList.take (k + 1))) := by
          unfold Hid
          rw [take_snoc s k hlt, byB_snoc, hbs.out]
          rfl
        have HW := Lib.hid (with_any s[k] w1.heap.size u3 m bs wr hbel.size (by omega) hown)
        have hq := qB_le s[k]
        have Hlen := Lib.hid hlen
        clear hbs hlen hown
        go_wp2_with fail
        refine HW.out.mono ?_
        rintro e w2 ⟨v2, rfl, hown2, hb2⟩
        have hbel2 := hbel.trans hb2
        clear HW hbel hb2
        generalize qB s[k] = q at Hj hq hown2
        go_wp2_with fail
        go_roundw
        case rel => exact ⟨k + 1, m + q.length, bs ++ q, by omega, by go_num, by omega, by rw [List.length_append, Hlen.out], Hj.out, .inl hown2, hbel2⟩
        case measure => simp [intOf]; omega
      · obtain rfl : k = s.size := by omega
        have Hr : Hid (⟨(bs ++ [34]).toArray⟩ = wrap (byB s.data.toList)) := by
          unfold Hid wrap
          rw [hbs.out, List.take_of_length_le (by simp)]
        have Hlen := Lib.hid hlen
        clear hbs hlen
        go_wp2_with (first | (at_builtin; refine wpList_append_ownF_string rfl (.tmp 21) (.const (.string ⟨#[34]⟩)) 45 9 rfl w1.heap.size 5 i0 Tryz.underlying45 Tryz.underlying9 hi hz0 hz1 hz2 _ m _ rfl hown ⟨#[34]⟩ rfl (by decide) (by unfold maxLen; show m + 1 ≤ _; omega) (by show m + 1 ≤ _; omega) (by have := hbel.size; omega) ?_) | fail)
        intro v3 w3 hown3 hg3
        have hbel3 : Below w1.heap.size w1 w3 := hbel.grown hg3 (by have := hbel.size; omega) (fun b hb => (hown.lt b hb).1)
        rw [show Lib.strCells ⟨#[34]⟩ = bcells [34] from rfl, ← bcells_append] at hown3
        have hconv := binfo.conv (n := m + 1) (by rw [List.length_append, Hlen.out]; rfl) hown3
        have Hbel := Lib.hid (Hb1.out.trans (hbel3.mono Hb1.out.size))
        clear hown hbel hg3 hown3 hbel3
        go_wp2_with fail
        go_ret
        exact ⟨by rw [← Hr.out]; rfl, Hbel.out⟩
end Go.Proofs.YtbfkkaafkinpmaaGreatDoor.quote
