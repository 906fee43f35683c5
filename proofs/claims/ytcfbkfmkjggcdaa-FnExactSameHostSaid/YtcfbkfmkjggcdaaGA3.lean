/- Merged: ToLabelS EqLabel EqLabelS LawL OpenEl OpLabelS. -/
import Derived.Test.YtcfbkfmkjggcdaaGA2
import Derived.OwnWalk
import Derived.Deep.WholeRow
import Derived.Test.YtcfbkfmkjggcdaaGA1
import Derived.Test.YtcfbkfmkjggcdaaRows
import Derived.ProofKit
import Derived.OpenShut
import Derived.ChangeSame
import Derived.Deep.Slices
import Derived.Deep.Strs
namespace Go.Proofs.Ytcfbkfmkjggcdaa.ty
open Go.ChangeShapes Go.WideShapes Go.ChangeAt Go.RowKit
set_option linter.unusedVariables false

theorem TryinfoLabel : (Try.prog.info? 82).map (fun i => (i.zero, i.size, i.bytes)) = some (some (.agg #[.string ⟨#[]⟩, .string ⟨#[]⟩]), 2, 32) := by kernel_rfl
set_option maxRecDepth 100000 in
theorem toLabelS (l : List Label) (f : Nat) (v : Value) (w : World) (h : Lies w f v (.sl 2 l.length (l.flatMap Label.row))) (hw : l.length ≤ 1048576) :
    Calls Try.prog 26 #[v] w fun e w' => ∃ v', e = .returned v' ∧ OwnRow w' w.heap.size 1 82 2 v' l.length (l.flatMap Label.row) ∧ Below w.heap.size w w' := by
  obtain ⟨A, c, rfl, hc1, hc2, f', rfl, hk⟩ := els_of Label.row_length h
  obtain ⟨i0, hi, hz0, hz1, hz2⟩ := info_parts TryinfoLabel
  unfold maxLen at hc2
  have Hk := Lib.hid hk
  clear h hk
  go_enter Try.func26, Try.ntmps26
  go_wp2_with (at_make; refine wpList_make_full _ rfl _ _ 29 rfl w.heap.size 82 i0 _ 2 Try.underlying29 hi hz0 hz1 .i64 .i64 (l.length : Int) (l.length : Int) l.length rfl rfl rfl rfl (by rw [hz2]; omega) (by unfold maxLen; omega) (by simp) ?_)
  intro w1 hown1 hg1
  have hb1 : Below w.heap.size w w1 := (Below.refl _ _).grown hg1 (Nat.le_refl _) (fun b hb => by cases hb)
  obtain ⟨xs, hown⟩ : ∃ xs : List Value, w1.ownsRow w.heap.size 82 2 (.slice (some ⟨w.heap.size, 0, none⟩) l.length l.length) l.length xs := ⟨_, hown1⟩
  have Hown := Lib.hid hown
  have Hb1 := Lib.hid hb1
  clear hown1 hown hb1 hg1
  go_wp2_with fail
  go_loopw [4] (fun i wr => ∃ (j : Nat) (xs : List Value) (F : List Nat), j ≤ l.length ∧ i = .int .i64 j ∧ wr.ownsRow w.heap.size 82 2 (.slice (some ⟨w.heap.size, 0, none⟩) l.length l.length) l.length xs ∧
    OwnS wr w.heap.size 1 (xs.take (j * 2)) ((l.take j).flatMap Label.row) F ∧ F.Nodup ∧ (∀ x ∈ F, x ≠ w.heap.size) ∧ Below w.heap.size w wr) (fun i _ => l.length - (intOf i).toNat)
  case atStart => exact ⟨0, xs, [], Nat.zero_le _, rfl, Hown.out, by simpa using OwnS.nil, List.nodup_nil, (fun x hx => by cases hx), Hb1.out⟩
  case round =>
    clear Hown Hb1 xs
    obtain ⟨j, xs, F, hj, rfl, hown, ho, hnd, hne, hbel⟩ := hrel
    by_cases hlt : j < l.length
    · obtain ⟨g, o, rfl, hg, us, hus, hc, hls⟩ := (Hk.out.below hbel).get hlt
      obtain ⟨rfl, hwf⟩ := Label.opened hls
      have q0 : wr.cell? ⟨g, o + j * 2, none⟩ = some (.string l[j].key) := hc 0 _ rfl
      have q1 : wr.cell? ⟨g, o + j * 2 + 1, none⟩ = some (.string l[j].value) := hc 1 _ rfl
      have hr1 : (l.take (j + 1)).flatMap Label.row = (l.take j).flatMap Label.row ++ l[j].row := by
        rw [List.take_succ_eq_append_getElem hlt, List.flatMap_append]; simp
      have Hr1 := Lib.hid hr1
      have HC := Lib.hid (toLabel l[j] wr hwf)
      have Hwf := Lib.hid hwf
      have Hown := Lib.hid hown
      have Ho := Lib.hid ho
      have Hbel := Lib.hid hbel
      have hlb : w.heap.size < wr.heap.size := (hown.lt w.heap.size rfl).2
      have Hlb := Lib.hid hlb
      clear hls hg hwf hr1 hown ho hbel hlb hus hc
      generalize l[j] = x at HC Hr1 Hwf q0 q1
      go_wp2_with fail
      refine HC.out.mono ?_
      rintro e w2 ⟨rfl, hb2⟩
      have hown2 := own_below' Hown.out hb2
      have ho2 := Ho.out.below hb2
      obtain ⟨us, hus⟩ : ∃ us : List Value, us = [.string x.key, .string x.value] := ⟨_, rfl⟩
      have hlen : us.length = 2 := by rw [hus]; rfl
      have hthere := own_there hown2 (j * 2) us.toArray.size (by simp [hlen]; omega)
      have hone : us.toArray.all (·.oneCell') = true := by rw [hus]; simp [Value.oneCell']
      have hsize : (Try.prog.info? 82).map (·.size) = some us.toArray.size := by rw [List.size_toArray, hlen]; exact sizeLabel
      have hoG : OwnS w2 w.heap.size 1 us x.row [] := by rw [hus]; exact Label.owned Hwf.out
      have Hfill := Lib.hid (own_fill hown2 hlt hlen ho2 hnd hne hoG List.nodup_nil (fun y hy hyG => by cases hyG) (fun y hy => by cases hy) rfl)
      have Hbel2 := Lib.hid (Hbel.out.trans (hb2.mono Hbel.out.size))
      have Hus := Lib.hid hus
      clear HC hoG hb2 hown2 ho2 Ho hnd hne Hown Hbel q0 q1
      rw [show (Value.agg #[.string x.key, .string x.value]) = .agg us.toArray by rw [hus]]
      clear hus
      go_wp2_with (first | (refine Go.wpList_store_mid rfl 82 _ _ rfl w.heap.size (j * 2) us.toArray rfl rfl hthere hsize hone ?_) | fail)
      have hf := Hfill.out
      rw [← Hr1.out] at hf
      have hbel3 : Below w.heap.size w (w2.setCells w.heap.size (j * 2) us) := Hbel2.out.grown hf.2.2.2.2 Hbel2.out.size (fun b hb => by injection hb with hb; omega)
      have HF := Lib.hid hf
      have Hbel3 := Lib.hid hbel3
      clear hf hbel3 Hfill hthere hone hsize
      go_wp2_with fail
      go_roundw
      case rel => exact ⟨j + 1, _, _, by omega, by go_num, HF.out.1, HF.out.2.1, HF.out.2.2.1, HF.out.2.2.2.1, Hbel3.out⟩
      case measure => simp [intOf]; omega
    · obtain rfl : j = l.length := by omega
      rw [List.take_of_length_le (Nat.le_refl _)] at ho
      have HR := Lib.hid (own_filled hown (by rw [flat_length' Label.row_length]) ho hnd hne)
      have Hbel := Lib.hid hbel
      clear hown ho hbel
      go_wp2_with fail
      go_ret
      exact ⟨_, rfl, HR.out, Hbel.out⟩
end Go.Proofs.Ytcfbkfmkjggcdaa.ty
namespace Go.Proofs.Ytcfbkfmkjggcdaa.ty
open Go.ChangeShapes Go.WideShapes Go.ChangeAt Go.RowKit
set_option linter.unusedVariables false

theorem eqLabel (x : Label) (w : World) :
    Calls Try.prog 51 #[.agg #[.string x.key, .string x.value], .agg #[.string x.key, .string x.value]] w fun e w' => e = .returned (.bool true) ∧ Below w.heap.size w w' := by
  obtain ⟨a0, a1⟩ := x
  simp only
  have Hb : Hid (∀ (a b : Obj), Below w.heap.size w ((w.alloc a).alloc b)) := fun a b => ((Below.refl _ _).alloc (Nat.le_refl _) a).alloc (by simp) b
  go_enter Try.func51, Try.ntmps51
  go_wp2_with fail
  go_ret
  exact ⟨rfl, Hb.out _ _⟩
end Go.Proofs.Ytcfbkfmkjggcdaa.ty
namespace Go.Proofs.Ytcfbkfmkjggcdaa.ty
open Go.ChangeShapes Go.WideShapes Go.ChangeAt Go.RowKit
set_option linter.unusedVariables false

set_option maxRecDepth 100000 in
theorem eqLabelS (l : List Label) (f1 f2 : Nat) (v1 v2 : Value) (w : World) (h1 : Lies w f1 v1 (.sl 2 l.length (l.flatMap Label.row))) (h2 : Lies w f2 v2 (.sl 2 l.length (l.flatMap Label.row))) :
    Calls Try.prog 32 #[v1, v2] w fun e w' => e = .returned (.bool true) ∧ Below w.heap.size w w' := by
  obtain ⟨A1, c1, rfl, hc1, hm1, f', rfl, hk1⟩ := els_of Label.row_length h1
  obtain ⟨A2, c2, rfl, hc2, hm2, f'', rfl, hk2⟩ := els_of Label.row_length h2
  unfold maxLen at hm1 hm2
  have Hk1 := Lib.hid hk1
  have Hk2 := Lib.hid hk2
  clear h1 h2 hk1 hk2
  go_enter Try.func32, Try.ntmps32
  go_wp2_with fail
  go_loopw [5] (fun i wr => ∃ (j : Nat), j ≤ l.length ∧ i = .int .i64 j ∧ Below w.heap.size w wr) (fun i _ => l.length - (intOf i).toNat)
  case atStart => exact ⟨0, Nat.zero_le _, rfl, Below.refl _ _⟩
  case round =>
    obtain ⟨j, hj, rfl, hbel⟩ := hrel
    by_cases hlt : j < l.length
    · obtain ⟨g1, o1, rfl, hg1, us, hus1, hcc1, hls1⟩ := (Hk1.out.below hbel).get hlt
      obtain ⟨g2, o2, rfl, hg2, us2, hus2, hcc2, hls2⟩ := (Hk2.out.below hbel).get hlt
      obtain ⟨rfl, hwf1⟩ := Label.opened hls1
      obtain ⟨rfl, hwf2⟩ := Label.opened hls2
      have q0 : wr.cell? ⟨g1, o1 + j * 2, none⟩ = some (.string l[j].key) := hcc1 0 _ rfl
      have q1 : wr.cell? ⟨g1, o1 + j * 2 + 1, none⟩ = some (.string l[j].value) := hcc1 1 _ rfl
      have r0 : wr.cell? ⟨g2, o2 + j * 2, none⟩ = some (.string l[j].key) := hcc2 0 _ rfl
      have r1 : wr.cell? ⟨g2, o2 + j * 2 + 1, none⟩ = some (.string l[j].value) := hcc2 1 _ rfl
      have HC := Lib.hid (fun w1 => eqLabel l[j] w1)
      have Hbel := Lib.hid hbel
      clear hls1 hls2 hbel hg1 hg2 hus1 hus2 hcc1 hcc2 hwf1 hwf2
      generalize l[j] = x at HC q0 q1 r0 r1
      go_wp2_with fail
      go_region_law (go_simp; go_at_call 51; refine (HC.out _).mono ?_; rintro e w1 ⟨rfl, hb1⟩)
      all_goals
        have hbel1 := Hbel.out.trans (((Below.refl _ _).drew.trans (hb1.mono (Nat.le_refl _))).mono Hbel.out.size)
        clear hb1 q0 q1 r0 r1
        go_wp2_with fail
        go_roundw
        case rel => exact ⟨j + 1, by omega, by go_num, hbel1⟩
        case measure => simp [intOf]; omega
    · obtain rfl : j = l.length := by omega
      have Hbel := Lib.hid hbel
      clear hbel
      go_wp2_with fail
      go_ret
      exact ⟨rfl, Hbel.out⟩
end Go.Proofs.Ytcfbkfmkjggcdaa.ty
namespace Go.Proofs.Ytcfbkfmkjggcdaa
open Go Go.RowKit
set_option linter.unusedVariables false

theorem drew_below {P : Program} {f : FuncId} {args : Array Value} {w : World} {E : Ending}
    (h : Calls P f args w fun e w' => e = E ∧ ∃ n, w' = w.drewN n) : Calls P f args w fun e w' => e = E ∧ Below w.heap.size w w' :=
  h.mono fun _ _ ⟨he, n, hn⟩ => ⟨he, by rw [hn]; exact below_drewN (Below.refl _ _) n⟩
/-- A slice of structs and a truth, handed back in memory of the call's own. -/
def ListOut {α : Type} (w w' : World) (e : Ending) (sz : Nat) (row : α → List C) (r : List α × Bool) : Prop :=
  ∃ v f F, e = .returned (.tuple #[v, .bool r.2]) ∧ Own w' w.heap.size (f + 1) v (.sl sz r.1.length (r.1.flatMap row)) F ∧ F.Nodup ∧ Below w.heap.size w w'
theorem wsum_le {α : Type} {f : α → Nat} {c : Nat} (h : ∀ x, f x ≤ c) (l : List α) : wsum f l ≤ c * l.length := by
  induction l with
  | nil => exact Nat.zero_le _
  | cons a r ih => have := h a; rw [List.length_cons, Nat.mul_add, Nat.mul_one]; show f a + wsum f r ≤ _; omega
theorem ty.Label.cost_le (l : List ty.Label) : wsum ty.Label.cost l ≤ 2 * l.length := wsum_le (fun _ => Nat.le_refl _) l
namespace lab
theorem sort_len {l : List ty.Label} (h : l.length ≤ 1048576) : (sortF l).1.length ≤ 1048576 := by
  unfold sortF
  split
  · rw [sorted_length]; exact h
  · exact h
theorem twoS_is (o : Option ByteArray) : ∃ s b, twoS o = .tuple #[.string s, .bool b] := by
  cases o with
  | none => exact ⟨_, _, rfl⟩
  | some y => exact ⟨_, _, rfl⟩
end lab
end Go.Proofs.Ytcfbkfmkjggcdaa
namespace Go.Proofs.Ytcfbkfmkjggcdaa.ty
open Go.ChangeShapes Go.WideShapes Go.ChangeAt Go.RowKit
set_option linter.unusedVariables false

section
variable {H : Type} {enc : TypeId × Value → H} {w : World} {base : Nat} {sp : Nat → Bool} {held : Bool}

/-- The cells of a row that reads. -/
theorem cells_head {a : Addr} {n : Nat} {cs : List Value} (h : w.cells? base (a.add 0) n = some cs) (hn : 0 < n) : a.spot = none ∧ a.block < w.heap.size := by
  obtain ⟨hb, hl, hc⟩ := World.cells?_some h
  have h0 := hc 0 hn
  rw [List.getElem?_eq_getElem (by omega)] at h0
  have e : (a.add 0).add 0 = a := by simp [Addr.add]
  rw [e] at h0
  exact ⟨World.cell?_spot h0, World.block_lt_of_cell? w _ h0⟩
theorem cells_at {g o : Nat} {i n : Nat} {cs : List Value} (h : w.cells? base ((⟨g, o, none⟩ : Addr).add i) n = some cs) : cs.length = n ∧ ∀ j u, cs[j]? = some u → w.cell? ⟨g, o + (i + j), none⟩ = some u := by
  obtain ⟨hb, hl, hc⟩ := World.cells?_some h
  refine ⟨hl, fun j u hu => ?_⟩
  have := hc j (by have := (List.getElem?_eq_some_iff.1 hu).1; omega)
  rw [Addr.add_lit, Addr.add_lit, Nat.add_assoc, hu] at this
  exact this
/-- A slice whose elements read. -/
theorem lies_slice {P : Program} {t e : TypeId} {sz fuel : Nat} {cs : List Value} {x : DataW H × List MemPlace} {α : Type} [Inhabited α] (f : α → List C) (ht : P.underlying t = some (.slice e)) (hsz : P.cellsOf e = sz) (hpos : 0 < sz) (hf : ∀ a, (f a).length = sz)
    (hel : ∀ n cs' y, n + 1 = fuel → DataW.trod enc P w base sp held n e cs' = some y → ∃ a, LiesS w n cs' (f a)) (h : DataW.trod enc P w base sp held fuel t cs = some x) : ∃ (v : Value) (l : List α), cs = [v] ∧ Lies w fuel v (.sl sz l.length (l.flatMap f)) := by
  rcases DataW.trod_slice ht h with ⟨rfl, _⟩ | ⟨a, len, cap, elems, rest, n, rfl, rfl, _, hb, hl, hm, hlen, hel2, _, _⟩
  · cases fuel with
    | zero => simp [DataW.trod] at h
    | succ n => exact ⟨_, [], rfl, none, 0, rfl, Nat.le_refl _, by simp [maxLen], by simp, fun hn => absurd hn (by simp)⟩
  · rw [hsz] at hel2
    have hone : ∀ i, i < len → ∃ p : List Value × α, w.cells? base (a.add (i * sz)) sz = some p.1 ∧ LiesS w n p.1 (f p.2) := fun i hi => by
      have h1 := hel2 i hi
      rw [List.getElem?_eq_getElem (by omega)] at h1
      obtain ⟨cs', h2, h3⟩ := Option.bind_eq_some_iff.1 h1
      obtain ⟨b, hb⟩ := hel n cs' _ rfl h3
      exact ⟨(cs', b), h2, hb⟩
    obtain ⟨q, hq⟩ := Go.Deep.choose_lt hone
    refine ⟨_, (List.range len).map (fun i => (q i).2), rfl, some a, cap, ?_, ?_, hm, ?_, fun hn => ?_⟩
    · simp
    · simpa using hl
    · rw [flat_length' hf]
    · have hn' : 0 < len := by simpa using hn
      have hq0 := (hq 0 hn').1
      rw [Nat.zero_mul] at hq0
      obtain ⟨h1, h2⟩ := cells_head hq0 hpos
      obtain ⟨g, o, spt⟩ := a
      have hspt : spt = none := h1
      subst hspt
      refine ⟨g, o, rfl, h2, fun m d hd => ?_⟩
      have hm1 : m < len * sz := by
        have := (List.getElem?_eq_some_iff.1 hd).1
        rw [flat_length' hf] at this
        simpa using this
      have hi : m / sz < len := Nat.div_lt_of_lt_mul (by rw [Nat.mul_comm]; exact hm1)
      have hj : m % sz < sz := Nat.mod_lt _ hpos
      have e : m / sz * sz + m % sz = m := by rw [Nat.mul_comm]; exact Nat.div_add_mod m sz
      rw [← e, flat_get' hf _ (m / sz) (m % sz) (q (m / sz)).2 (by simp [hi]) hj] at hd
      obtain ⟨hl2, hcell⟩ := cells_at (hq (m / sz) hi).1
      have hu : (q (m / sz)).1[m % sz]? = some ((q (m / sz)).1[m % sz]'(by omega)) := List.getElem?_eq_getElem (by omega)
      refine ⟨_, ?_, (hq (m / sz) hi).2.2 (m % sz) _ d hu hd⟩
      have := hcell _ _ hu
      rw [e] at this
      exact this
end
end Go.Proofs.Ytcfbkfmkjggcdaa.ty
namespace Go.Proofs.Ytcfbkfmkjggcdaa.ty
open Go.ChangeShapes Go.WideShapes Go.ChangeAt Go.RowKit
set_option linter.unusedVariables false

instance : Inhabited Label := ⟨⟨⟨#[]⟩, ⟨#[]⟩⟩⟩
theorem csLabel : Try.prog.cellsOf 75 = 2 := by kernel_rfl
theorem csLabel_string : Try.prog.cellsOf 9 = 1 := by kernel_rfl
section
variable {H : Type} {enc : TypeId × Value → H} {w : World} {base : Nat} {sp : Nat → Bool} {held : Bool}
set_option maxRecDepth 100000 in
theorem trodLabel (fuel : Nat) (cs : List Value) (x : DataW H × List MemPlace) (h : DataW.trod enc Try.prog w base sp held fuel 75 cs = some x) : ∃ t : Label, LiesS w fuel cs t.row := by
  obtain ⟨xs, n, rfl, _, hl, hxl, hf⟩ := DataW.trod_struct Try.underlying75 h
  rw [csLabel] at hl
  have hxlk : xs.length = 2 := hxl
  obtain ⟨u0, u1, rfl⟩ := of_Label hl
  obtain ⟨y0, y1, rfl⟩ := of_Label hxlk
  have f0 := hf 0 _ rfl
  have f1 := hf 1 _ rfl
  simp only [csLabel_string, List.drop_zero, List.drop_succ_cons, List.take_succ_cons, List.take_zero, List.getElem?_cons_zero, List.getElem?_cons_succ] at f0 f1
  obtain ⟨z0, e0, _, w0⟩ := DataW.trod_string Try.underlying9 f0
  obtain ⟨z1, e1, _, w1⟩ := DataW.trod_string Try.underlying9 f1
  injection e0 with e0
  injection e1 with e1
  subst e0 e1
  refine ⟨⟨z0, z1⟩, ?_⟩
  cases n with
  | zero => simp [DataW.trod] at f0
  | succ n => exact (Label.lies (f := n) (x := ⟨z0, z1⟩) ⟨w0, w1⟩).deeper (by omega)
set_option maxRecDepth 100000 in
theorem open_LabelS {r : Reach} {b0 : Nat} {v : Value} {d : DataW H} {ps : List MemPlace}
    (hval : Value.okWide Try.prog w r b0 22 v) (hd : DataW.Trod enc Try.prog w base sp held 22 v d ps) : ∃ (l : List Label) (f : Nat), Lies w f v (.sl 2 l.length (l.flatMap Label.row)) := by
  obtain ⟨A, n, c, rfl⟩ := okWide_slice Try.underlying22 hval
  obtain ⟨fuel, hf⟩ := hd
  obtain ⟨v', l, h1, h2⟩ := lies_slice (α := Label) Label.row Try.underlying22 csLabel (by decide) Label.row_length (fun n cs' y _ hy => trodLabel n cs' y hy) hf
  have e : v' = .slice A n c := by simpa [Value.cells] using h1.symm
  subst e
  exact ⟨l, fuel, h2⟩
end
end Go.Proofs.Ytcfbkfmkjggcdaa.ty
