/- impl.opWord, impl.NeedLine. -/
import Derived.Test.YtjcfaepklakpkaaGreatDoorGIdI
import Derived.Test.YtjcfaepklakpkaaGreatDoorLineNM
import Derived.Test.YtjcfaepklakpkaaGreatDoorShelf
import Derived.Lib.Join
namespace Go.Proofs.YtjcfaepklakpkaaGreatDoor.need
open Go.ChangeShapes Go.WideShapes Go.ChangeAt Go.RowKit ty lab
set_option linter.unusedVariables false

theorem opi1 (w : World) : Sem.run Tryz.prog (Instr.index 75 (Value.agg #[.string ⟨#[]⟩, .string ⟨#[105, 110]⟩, .string ⟨#[110, 111, 116, 105, 110]⟩, .string ⟨#[104, 97, 115]⟩, .string ⟨#[104, 97, 115, 110, 111, 116]⟩]) (.int .i64 1)) w = .ok (.string ⟨#[105, 110]⟩) w := by kernel_rfl
theorem opi2 (w : World) : Sem.run Tryz.prog (Instr.index 75 (Value.agg #[.string ⟨#[]⟩, .string ⟨#[105, 110]⟩, .string ⟨#[110, 111, 116, 105, 110]⟩, .string ⟨#[104, 97, 115]⟩, .string ⟨#[104, 97, 115, 110, 111, 116]⟩]) (.int .i64 2)) w = .ok (.string ⟨#[110, 111, 116, 105, 110]⟩) w := by kernel_rfl
theorem opi3 (w : World) : Sem.run Tryz.prog (Instr.index 75 (Value.agg #[.string ⟨#[]⟩, .string ⟨#[105, 110]⟩, .string ⟨#[110, 111, 116, 105, 110]⟩, .string ⟨#[104, 97, 115]⟩, .string ⟨#[104, 97, 115, 110, 111, 116]⟩]) (.int .i64 3)) w = .ok (.string ⟨#[104, 97, 115]⟩) w := by kernel_rfl
theorem opi4 (w : World) : Sem.run Tryz.prog (Instr.index 75 (Value.agg #[.string ⟨#[]⟩, .string ⟨#[105, 110]⟩, .string ⟨#[110, 111, 116, 105, 110]⟩, .string ⟨#[104, 97, 115]⟩, .string ⟨#[104, 97, 115, 110, 111, 116]⟩]) (.int .i64 4)) w = .ok (.string ⟨#[104, 97, 115, 110, 111, 116]⟩) w := by kernel_rfl
theorem opw (op : Int) (h : op = 1 ∨ op = 2 ∨ op = 3 ∨ op = 4) (w : World) :
    Calls Tryz.prog 34 #[.int .i64 op] w fun e w' => e = .returned (.string ⟨(opB op).toArray⟩) ∧ Below w.heap.size w w' := by
  rcases h with rfl | rfl | rfl | rfl
  · have hi := opi1
    go_enter Tryz.func34, Tryz.ntmps34
    go_wp2_with fail
    go_ret
    exact ⟨rfl, Below.refl _ _⟩
  · have hi := opi2
    go_enter Tryz.func34, Tryz.ntmps34
    go_wp2_with fail
    go_ret
    exact ⟨rfl, Below.refl _ _⟩
  · have hi := opi3
    go_enter Tryz.func34, Tryz.ntmps34
    go_wp2_with fail
    go_ret
    exact ⟨rfl, Below.refl _ _⟩
  · have hi := opi4
    go_enter Tryz.func34, Tryz.ntmps34
    go_wp2_with fail
    go_ret
    exact ⟨rfl, Below.refl _ _⟩
theorem join_vals : ∀ l : List ByteArray, Lib.join (l.map (·.data.toList)) [44] = valsB l
  | [] => rfl
  | [x] => by simp [Lib.join_one, valsB]
  | x :: y :: r => by
    have ih := join_vals (y :: r)
    unfold Lib.join at ih ⊢
    rw [List.map_cons] at ih ⊢
    rw [List.map_cons]
    rw [List.intercalate_cons_cons, ih, valsB]
    simp
theorem line_cat {x : Need} (h : NeedP x) (h0 : x.values ≠ []) : ((x.key ++ ⟨#[32]⟩) ++ ⟨(opB x.op).toArray⟩) ++ ((⟨#[32]⟩ : ByteArray) ++ ⟨(valsB x.values).toArray⟩) = lineN x := by
  rw [lineN_yes h, if_neg h0]
  apply ByteArray.ext
  apply Array.ext'
  simp
theorem line_cat0 {x : Need} (h : NeedP x) (h0 : x.values = []) : (x.key ++ ⟨#[32]⟩) ++ ⟨(opB x.op).toArray⟩ = lineN x := by
  rw [lineN_yes h, if_pos h0]
  apply ByteArray.ext
  apply Array.ext'
  simp
set_option maxRecDepth 100000 in
set_option maxHeartbeats 16000000 in
theorem impl_lineN (x : Need) (f : Nat) (vs : List Value) (w : World) (h : LiesS w f vs x.row) (hw : x.wt ≤ 1048576) :
    Calls Tryz.prog 10 #[.agg vs.toArray] w fun e w' => e = .returned (.string (lineN x)) ∧ Below w.heap.size w w' := by
  have HN := Lib.hid (fun w1 (hb : Below w.heap.size w w1) => impl_need x f vs w1 (h.kept hb.block) hw)
  obtain ⟨R, hR⟩ : ∃ R, lineN x = R := ⟨_, rfl⟩
  rw [hR]
  have Hno : Hid (¬ NeedP x → R = ⟨#[]⟩) := fun h => by rw [← hR]; exact lineN_no h
  have Hyes0 : Hid (NeedP x → x.values = [] → (x.key ++ ⟨#[32]⟩) ++ ⟨(opB x.op).toArray⟩ = R) := fun h h2 => by rw [← hR]; exact line_cat0 h h2
  have Hyes : Hid (NeedP x → x.values ≠ [] → ((x.key ++ ⟨#[32]⟩) ++ ⟨(opB x.op).toArray⟩) ++ ((⟨#[32]⟩ : ByteArray) ++ ⟨(valsB x.values).toArray⟩) = R) := fun h h2 => by rw [← hR]; exact line_cat h h2
  have Hlen : Hid (NeedP x → x.key.size + 1 + (opB x.op).length + 1 + (valsB x.values).length ≤ 8000010) := fun h => by
    have := lineTo_len h hw x.values.length
    unfold lineTo at this
    rw [List.take_length] at this
    have e : x.key.data.toList.length = x.key.size := by rw [Array.length_toList]; rfl
    by_cases h0 : x.values.length = 0
    · have h1 : x.values = [] := List.eq_nil_of_length_eq_zero h0
      rw [if_pos h0] at this
      rw [h1]
      simp only [List.length_append, List.length_cons, List.length_nil, valsB] at this ⊢
      omega
    · rw [if_neg h0] at this
      simp only [List.length_append, List.length_cons] at this
      omega
  have Hop : Hid (NeedP x → 1 ≤ x.op ∧ x.op ≤ 4 ∧ x.values.length ≤ 4) := fun h => ⟨h.lo, h.hi, by
    by_cases h3 : 3 ≤ x.op
    · rw [h.none h3]; omega
    · exact (h.some (by omega)).2.1⟩
  obtain ⟨key, op, vals⟩ := x
  obtain ⟨A2, c2, rfl, hwf, k2, m2, l2⟩ := Need.opened h
  simp only at *
  obtain ⟨A', c', hA', _, _, hr, _⟩ := Str.opened l2
  injection hA' with a1 _ a3
  subst a1 a3
  have Hr := Lib.hid hr
  have HB := Lib.hid (Box.new 31 w [.string key, .int .i64 op, .slice A2 vals.length c2])
  have p0 := HB.out.cell (j := 0) rfl
  have p1 := HB.out.cell (j := 1) rfl
  have p2 := HB.out.cell (j := 2) rfl
  unfold maxLen at m2
  clear h l2 hr hR hwf hw
  by_cases hP : NeedP ⟨key, op, vals⟩
  case neg =>
    have Hf := Lib.hid (Hno.out hP)
    have HN1 := Lib.hid (HN.out _ HB.out.1)
    rw [yes_f hP] at HN1
    clear hP Hno Hyes Hyes0 Hop HN Hlen
    go_enter Tryz.func10, Tryz.ntmps10
    go_wp2_with fail
    refine HN1.out.mono ?_
    rintro e x1 ⟨rfl, hb1⟩
    have B1 := Lib.hid (HB.out.below hb1)
    clear hb1
    go_wp2_with fail
    go_ret
    exact ⟨by rw [Hf.out]; rfl, B1.out.1⟩
  have HN1 := Lib.hid (HN.out _ HB.out.1)
  rw [yes_t hP] at HN1
  obtain ⟨ho1, ho4, hv4⟩ := Hop.out hP
  have hlen := Hlen.out hP
  have s1 : ¬ 9223372036854775807 < key.size + 1 := by omega
  have s2 : ¬ 9223372036854775807 < (key ++ ⟨#[32]⟩).size + (⟨(opB op).toArray⟩ : ByteArray).size := by
    rw [ByteArray.size_append]
    have e1 : (⟨#[32]⟩ : ByteArray).size = 1 := rfl
    have e2 : (⟨(opB op).toArray⟩ : ByteArray).size = (opB op).length := by show (opB op).toArray.size = _; simp
    omega
  have s5 : ¬ 9223372036854775807 < key.size + 1 + (⟨(opB op).toArray⟩ : ByteArray).size := by
    rw [ByteArray.size_append] at s2
    exact s2
  have HO := Lib.hid (fun w' => opw op (by omega) w')
  by_cases h0 : vals = []
  · have Hf := Lib.hid (Hyes0.out hP h0)
    have hl0 : vals.length = 0 := by rw [h0]; rfl
    have g0 : ¬ (0 : Int) < (vals.length : Int) := by omega
    have g1 : ¬ 0 < vals.length := by omega
    clear hP Hno Hyes Hyes0 Hop HN Hlen hlen h0 hl0
    generalize (⟨(opB op).toArray⟩ : ByteArray) = ob at HO Hf s2 s5
    go_enter Tryz.func10, Tryz.ntmps10
    go_wp2_with fail
    refine HN1.out.mono ?_
    rintro e x1 ⟨rfl, hb1⟩
    have B1 := Lib.hid (HB.out.below hb1)
    have P0 : ∀ p : BelowBy x1, p.v.cell? ⟨w.heap.size, 0, none⟩ = some (.string key) := fun p => p.cell (heap_lt B1.out.2) (B1.out.cell (j := 0) rfl)
    have P1 : ∀ p : BelowBy x1, p.v.cell? ⟨w.heap.size, 1, none⟩ = some (.int .i64 op) := fun p => p.cell (heap_lt B1.out.2) (B1.out.cell (j := 1) rfl)
    have HO1 := Lib.hid (fun p : BelowBy x1 => HO.out p.v)
    clear hb1
    go_wp2_with fail
    refine wp_region_quiet_below (by kernel_rfl) (by kernel_rfl) ?_
    repeat (refine @wpQuiet_step _ _ _ _ _ _ _ ?_; intro K hK; go_simp; first | (refine hK _ ?_; clear hK K) | (apply Exists.intro; refine ⟨fun _ => ?_, hK _ ?_⟩; (first | (go_at_call 34; exact Calls.below_of (HO1.out _))); clear hK K))
    refine wpQuiet_nil ?_
    intro _ hw'
    obtain ⟨p, rfl⟩ := hw'
    have B2 := Lib.hid (B1.out.below p.h)
    have p2 := B2.out.cell (j := 2) rfl
    go_wp2_with fail
    go_ret
    exact ⟨by rw [← Hf.out]; rfl, B2.out.1⟩
  · have Hf := Lib.hid (Hyes.out hP h0)
    have hl0 : 0 < vals.length := by cases vals with
      | nil => exact absurd rfl h0
      | cons a r => simp
    have g0 : (0 : Int) < (vals.length : Int) := by omega
    obtain ⟨g, o, rfl, hg, hcc⟩ := Hr.out.2 hl0
    have HJ := Lib.hid (fun w' (hb : Below w.heap.size w w') => Tryz.strings_Join g o c2 vals ⟨#[44]⟩ w' (fun k x hx => by
      have hk := (List.getElem?_eq_some_iff.1 hx)
      obtain ⟨hk, e⟩ := hk
      have := hcc k hk _ (scells_get vals k hk)
      rw [e] at this
      exact (World.cell?_of_block (hb.block g hg)).trans this) (Nat.lt_of_lt_of_le hg hb.size) (by omega) (by omega) (by
        show (Lib.join (vals.map (·.data.toList)) [44]).length ≤ _
        rw [join_vals]; omega))
    have e2 : Lib.join (vals.map (·.data.toList)) (⟨#[44]⟩ : ByteArray).data.toList = valsB vals := join_vals vals
    rw [e2] at HJ
    have e3 : (⟨(valsB vals).toArray⟩ : ByteArray).size = (valsB vals).length := by show (valsB vals).toArray.size = _; simp
    have s3 : ¬ 9223372036854775807 < 1 + (⟨(valsB vals).toArray⟩ : ByteArray).size := by omega
    have s4 : ¬ 9223372036854775807 < (key ++ ⟨#[32]⟩ ++ ⟨(opB op).toArray⟩).size + ((⟨#[32]⟩ : ByteArray) ++ ⟨(valsB vals).toArray⟩).size := by
      rw [ByteArray.size_append, ByteArray.size_append, ByteArray.size_append, e3]
      have e1 : (⟨#[32]⟩ : ByteArray).size = 1 := rfl
      have e2 : (⟨(opB op).toArray⟩ : ByteArray).size = (opB op).length := by show (opB op).toArray.size = _; simp
      omega
    clear hP Hno Hyes Hyes0 Hop HN Hlen hlen h0 e2 e3 hcc hg
    generalize (⟨(opB op).toArray⟩ : ByteArray) = ob at HO Hf s2 s4 s5
    generalize (⟨(valsB vals).toArray⟩ : ByteArray) = jb at HJ Hf s3 s4
    go_enter Tryz.func10, Tryz.ntmps10
    go_wp2_with fail
    refine HN1.out.mono ?_
    rintro e x1 ⟨rfl, hb1⟩
    have B1 := Lib.hid (HB.out.below hb1)
    have P0 : ∀ p : BelowBy x1, p.v.cell? ⟨w.heap.size, 0, none⟩ = some (.string key) := fun p => p.cell (heap_lt B1.out.2) (B1.out.cell (j := 0) rfl)
    have P1 : ∀ p : BelowBy x1, p.v.cell? ⟨w.heap.size, 1, none⟩ = some (.int .i64 op) := fun p => p.cell (heap_lt B1.out.2) (B1.out.cell (j := 1) rfl)
    have HO1 := Lib.hid (fun p : BelowBy x1 => HO.out p.v)
    clear hb1
    go_wp2_with fail
    refine wp_region_quiet_below (by kernel_rfl) (by kernel_rfl) ?_
    repeat (refine @wpQuiet_step _ _ _ _ _ _ _ ?_; intro K hK; go_simp; first | (refine hK _ ?_; clear hK K) | (apply Exists.intro; refine ⟨fun _ => ?_, hK _ ?_⟩; (first | (go_at_call 34; exact Calls.below_of (HO1.out _))); clear hK K))
    refine wpQuiet_nil ?_
    intro _ hw'
    obtain ⟨p, rfl⟩ := hw'
    have B2 := Lib.hid (B1.out.below p.h)
    have p2 := B2.out.cell (j := 2) rfl
    have HJ2 := Lib.hid (HJ.out _ B2.out.1)
    clear HJ
    go_wp2_with fail
    refine HJ2.out.mono ?_
    rintro e x3 ⟨rfl, hb3⟩
    have B3 := Lib.hid (B2.out.below hb3)
    clear hb3
    go_wp2_with fail
    go_ret
    exact ⟨by rw [← Hf.out]; rfl, B3.out.1⟩
end Go.Proofs.YtjcfaepklakpkaaGreatDoor.need
