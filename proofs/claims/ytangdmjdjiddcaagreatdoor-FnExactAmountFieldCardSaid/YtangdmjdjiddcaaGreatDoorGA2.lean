/- Merged: ReadAmtS SplitI DigitsI UnitI DecimalI ReadNumI ReadIntI MulI. -/
import Derived.Test.YtangdmjdjiddcaaGreatDoorGA1
import Derived.Test.YtangdmjdjiddcaaGreatDoorGA0
import Derived.Test.YtangdmjdjiddcaaGreatDoorShelf
import Derived.Shelf.Strings.SlTrimAscii
import Derived.Maps.OwnSet
import Derived.Test.YtangdmjdjiddcaaGreatDoorRows
import Derived.ProofKit
import Derived.OpenShut
import Derived.Stop.LaidErr
import Derived.WalkSpells
namespace Go.Proofs.YtangdmjdjiddcaaGreatDoor.amount
open Go.ChangeShapes Go.WideShapes Go.ChangeAt Go.RowKit
set_option linter.unusedVariables false

theorem spec_read (s : ByteArray) (w : World) (hs : s.size ≤ maxLen) :
    Calls Tryz.prog 30 #[.string s] w fun e w' => e = .returned (.tuple #[.int .i64 (readF s).1, .int .i64 (readF s).2]) ∧ Below w.heap.size w w' := by
  have hm := hs
  unfold maxLen at hm
  by_cases h1 : 40 < s.size
  · rw [read_long h1]
    go_enter Tryz.func30, Tryz.ntmps30
    go_wp2_with fail
    go_ret2
    exact ⟨rfl, Below.refl _ _⟩
  rw [read_short h1]
  have HS := Lib.hid (split.spec_any s w hs)
  have hf : (split.fst s).size ≤ 40 := by rw [split.fst_size]; have := split.lead_le s; omega
  have hr : (split.snd s).size ≤ 40 := by rw [split.snd_size]; omega
  generalize split.fst s = f at HS hf ⊢
  generalize split.snd s = r at HS hr ⊢
  have HU := Lib.hid (fun w => unit.spec_any r w (by unfold maxLen; omega))
  have HI := Lib.hid (fun w1 => readnum.spec_int f w1 (by unfold maxLen; omega))
  clear hs
  cases hu : unit.unitF r with
  | none =>
    rw [g_unit hu]
    simp only [hu, arith.two_none] at HU
    clear hu HI
    by_cases he : f.size = 0
    · have he2 := empty_yes he
      go_enter Tryz.func30, Tryz.ntmps30
      go_wp2_with fail
      refine HS.out.mono ?_
      rintro e w1 ⟨rfl, hb1⟩
      go_wp2_with fail
      refine (HU.out _).mono ?_
      rintro e w2 ⟨rfl, hb2⟩
      have hb12 := hb1.trans (hb2.mono hb1.size)
      clear HS HU hb1 hb2
      go_wp2_with fail
      go_ret2
      exact ⟨rfl, hb12⟩
    have he2 := empty_no (f := f) (by omega)
    by_cases d1 : 1 < f.size
    · have ha := at_eq f 0 (by omega)
      by_cases d2 : at_ f 0 = 48
      · rw [d2] at ha
        go_enter Tryz.func30, Tryz.ntmps30
        go_wp2_with fail
        refine HS.out.mono ?_
        rintro e w1 ⟨rfl, hb1⟩
        go_wp2_with fail
        refine (HU.out _).mono ?_
        rintro e w2 ⟨rfl, hb2⟩
        have hb12 := hb1.trans (hb2.mono hb1.size)
        clear HS HU hb1 hb2
        go_wp2_with fail
        go_ret2
        exact ⟨rfl, hb12⟩
      · rw [← ha] at d2
        go_enter Tryz.func30, Tryz.ntmps30
        go_wp2_with fail
        refine HS.out.mono ?_
        rintro e w1 ⟨rfl, hb1⟩
        go_wp2_with fail
        refine (HU.out _).mono ?_
        rintro e w2 ⟨rfl, hb2⟩
        have hb12 := hb1.trans (hb2.mono hb1.size)
        clear HS HU hb1 hb2
        go_wp2_with fail
        go_ret2
        exact ⟨rfl, hb12⟩
    · skip
      go_enter Tryz.func30, Tryz.ntmps30
      go_wp2_with fail
      refine HS.out.mono ?_
      rintro e w1 ⟨rfl, hb1⟩
      go_wp2_with fail
      refine (HU.out _).mono ?_
      rintro e w2 ⟨rfl, hb2⟩
      have hb12 := hb1.trans (hb2.mono hb1.size)
      clear HS HU hb1 hb2
      go_wp2_with fail
      go_ret2
      exact ⟨rfl, hb12⟩
  | some u =>
    have hub := unit.unit_bd hu
    simp only [hu, arith.two_some] at HU
    by_cases he : f.size = 0
    · rw [g_form (.inl he)]
      have he2 := empty_yes he
      clear hu HI
      go_enter Tryz.func30, Tryz.ntmps30
      go_wp2_with fail
      refine HS.out.mono ?_
      rintro e w1 ⟨rfl, hb1⟩
      go_wp2_with fail
      refine (HU.out _).mono ?_
      rintro e w2 ⟨rfl, hb2⟩
      have hb12 := hb1.trans (hb2.mono hb1.size)
      clear HS HU hb1 hb2
      go_wp2_with fail
      go_ret2
      exact ⟨rfl, hb12⟩
    have he2 := empty_no (f := f) (by omega)
    by_cases c2 : 1 < f.size ∧ at_ f 0 = 48
    · rw [g_form (.inr c2)]
      have d1 := c2.1
      have ha : ((f[0]'(Nat.lt_trans Nat.zero_lt_one d1)).toNat : Int) = 48 := by rw [at_eq f 0 (by omega)]; exact c2.2
      clear hu HI c2
      go_enter Tryz.func30, Tryz.ntmps30
      go_wp2_with fail
      refine HS.out.mono ?_
      rintro e w1 ⟨rfl, hb1⟩
      go_wp2_with fail
      refine (HU.out _).mono ?_
      rintro e w2 ⟨rfl, hb2⟩
      have hb12 := hb1.trans (hb2.mono hb1.size)
      clear HS HU hb1 hb2
      go_wp2_with fail
      go_ret2
      exact ⟨rfl, hb12⟩
    have c3 : ¬ (f.size = 0 ∨ (1 < f.size ∧ at_ f 0 = 48)) := fun h => h.elim he c2
    have HM := Lib.hid (fun w => arith.spec_mul (readnum.res 9223372036854775807 f) u w (by have := res_bd f; omega) (by omega))
    have hd : f.size = 1 ∨ (1 < f.size ∧ ∃ h : 0 < f.size, ¬ ((f[0].toNat : Int) = 48)) := by
      by_cases d1 : 1 < f.size
      · exact .inr ⟨d1, by omega, fun e => c2 ⟨d1, by rw [← at_eq f 0 (by omega)]; exact e⟩⟩
      · exact .inl (by omega)
    clear c2
    cases hfl : readnum.flag 9223372036854775807 f with
    | false =>
      rw [g_far hu c3 hfl]
      simp only [hfl] at HI
      generalize readnum.res 9223372036854775807 f = q at *
      clear hu c3 hfl HM hub
      rcases hd with d1 | ⟨d1, d0, d2⟩
      · skip
        go_enter Tryz.func30, Tryz.ntmps30
        go_wp2_with fail
        refine HS.out.mono ?_
        rintro e w1 ⟨rfl, hb1⟩
        go_wp2_with fail
        refine (HU.out _).mono ?_
        rintro e w2 ⟨rfl, hb2⟩
        have hb12 := hb1.trans (hb2.mono hb1.size)
        clear HS HU hb1 hb2
        go_wp2_with fail
        refine (HI.out _).mono ?_
        rintro e w3 ⟨rfl, hb3⟩
        have hb13 := hb12.trans (hb3.mono hb12.size)
        clear HI hb12 hb3
        go_wp2_with fail
        go_ret2
        exact ⟨rfl, hb13⟩
      · skip
        go_enter Tryz.func30, Tryz.ntmps30
        go_wp2_with fail
        refine HS.out.mono ?_
        rintro e w1 ⟨rfl, hb1⟩
        go_wp2_with fail
        refine (HU.out _).mono ?_
        rintro e w2 ⟨rfl, hb2⟩
        have hb12 := hb1.trans (hb2.mono hb1.size)
        clear HS HU hb1 hb2
        go_wp2_with fail
        refine (HI.out _).mono ?_
        rintro e w3 ⟨rfl, hb3⟩
        have hb13 := hb12.trans (hb3.mono hb12.size)
        clear HI hb12 hb3
        go_wp2_with fail
        go_ret2
        exact ⟨rfl, hb13⟩
    | true =>
      simp only [hfl] at HI
      cases hmu : arith.mulF (readnum.res 9223372036854775807 f) u with
      | none =>
        rw [g_much hu c3 hfl hmu]
        simp only [hmu, arith.two_none] at HM
        generalize readnum.res 9223372036854775807 f = q at *
        clear hu c3 hfl hmu hub
        rcases hd with d1 | ⟨d1, d0, d2⟩
        · skip
          go_enter Tryz.func30, Tryz.ntmps30
          go_wp2_with fail
          refine HS.out.mono ?_
          rintro e w1 ⟨rfl, hb1⟩
          go_wp2_with fail
          refine (HU.out _).mono ?_
          rintro e w2 ⟨rfl, hb2⟩
          have hb12 := hb1.trans (hb2.mono hb1.size)
          clear HS HU hb1 hb2
          go_wp2_with fail
          refine (HI.out _).mono ?_
          rintro e w3 ⟨rfl, hb3⟩
          have hb13 := hb12.trans (hb3.mono hb12.size)
          clear HI hb12 hb3
          go_wp2_with fail
          refine (HM.out _).mono ?_
          rintro e w4 ⟨rfl, rfl⟩
          clear HM
          go_wp2_with fail
          go_ret2
          exact ⟨rfl, hb13⟩
        · skip
          go_enter Tryz.func30, Tryz.ntmps30
          go_wp2_with fail
          refine HS.out.mono ?_
          rintro e w1 ⟨rfl, hb1⟩
          go_wp2_with fail
          refine (HU.out _).mono ?_
          rintro e w2 ⟨rfl, hb2⟩
          have hb12 := hb1.trans (hb2.mono hb1.size)
          clear HS HU hb1 hb2
          go_wp2_with fail
          refine (HI.out _).mono ?_
          rintro e w3 ⟨rfl, hb3⟩
          have hb13 := hb12.trans (hb3.mono hb12.size)
          clear HI hb12 hb3
          go_wp2_with fail
          refine (HM.out _).mono ?_
          rintro e w4 ⟨rfl, rfl⟩
          clear HM
          go_wp2_with fail
          go_ret2
          exact ⟨rfl, hb13⟩
      | some x =>
        rw [g_yes hu c3 hfl hmu]
        simp only [hmu, arith.two_some] at HM
        generalize readnum.res 9223372036854775807 f = q at *
        clear hu c3 hfl hmu hub
        rcases hd with d1 | ⟨d1, d0, d2⟩
        · skip
          go_enter Tryz.func30, Tryz.ntmps30
          go_wp2_with fail
          refine HS.out.mono ?_
          rintro e w1 ⟨rfl, hb1⟩
          go_wp2_with fail
          refine (HU.out _).mono ?_
          rintro e w2 ⟨rfl, hb2⟩
          have hb12 := hb1.trans (hb2.mono hb1.size)
          clear HS HU hb1 hb2
          go_wp2_with fail
          refine (HI.out _).mono ?_
          rintro e w3 ⟨rfl, hb3⟩
          have hb13 := hb12.trans (hb3.mono hb12.size)
          clear HI hb12 hb3
          go_wp2_with fail
          refine (HM.out _).mono ?_
          rintro e w4 ⟨rfl, rfl⟩
          clear HM
          go_wp2_with fail
          go_ret2
          exact ⟨rfl, hb13⟩
        · skip
          go_enter Tryz.func30, Tryz.ntmps30
          go_wp2_with fail
          refine HS.out.mono ?_
          rintro e w1 ⟨rfl, hb1⟩
          go_wp2_with fail
          refine (HU.out _).mono ?_
          rintro e w2 ⟨rfl, hb2⟩
          have hb12 := hb1.trans (hb2.mono hb1.size)
          clear HS HU hb1 hb2
          go_wp2_with fail
          refine (HI.out _).mono ?_
          rintro e w3 ⟨rfl, hb3⟩
          have hb13 := hb12.trans (hb3.mono hb12.size)
          clear HI hb12 hb3
          go_wp2_with fail
          refine (HM.out _).mono ?_
          rintro e w4 ⟨rfl, rfl⟩
          clear HM
          go_wp2_with fail
          go_ret2
          exact ⟨rfl, hb13⟩
end Go.Proofs.YtangdmjdjiddcaaGreatDoor.amount
namespace Go.Proofs.YtangdmjdjiddcaaGreatDoor.split
open Go.ChangeShapes Go.WideShapes Go.ChangeAt Go.RowKit
set_option linter.unusedVariables false

theorem dig_all : ∀ n : Fin 256, ([48, 49, 50, 51, 52, 53, 54, 55, 56, 57] : List UInt8).contains (UInt8.ofNat n.val) = dig (UInt8.ofNat n.val) := by decide +kernel
theorem dig_set (b : UInt8) : ([48, 49, 50, 51, 52, 53, 54, 55, 56, 57] : List UInt8).contains b = dig b := by
  have h := dig_all ⟨b.toNat, b.toNat_lt⟩
  simpa using h
theorem trim_list : ∀ l : List UInt8, Lib.trimLeftS l [48, 49, 50, 51, 52, 53, 54, 55, 56, 57] = l.drop (ld l)
  | [] => rfl
  | b :: r => by
    have ih := trim_list r
    unfold Lib.trimLeftS at ih ⊢
    rw [List.dropWhile_cons, dig_set]
    unfold ld
    split
    · rw [ih, List.drop_succ_cons]
    · rfl
theorem trim_any (s : ByteArray) (w : World) :
    Calls Tryz.prog 94 #[.string s, .string ⟨#[48, 49, 50, 51, 52, 53, 54, 55, 56, 57]⟩] w fun e w' => e = .returned (.string (snd s)) ∧ Below w.heap.size w w' := by
  have h := Any.strings_TrimLeft_laid Tryz.lays161 (by kernel_rfl) s ⟨#[48, 49, 50, 51, 52, 53, 54, 55, 56, 57]⟩ w (by decide) (ascii_of_all (by decide))
  have e : snd s = ⟨(Lib.trimLeftS s.data.toList (⟨#[48, 49, 50, 51, 52, 53, 54, 55, 56, 57]⟩ : ByteArray).data.toList).toArray⟩ := by
    refine mk_eq ?_
    rw [snd_list]
    exact (trim_list _).symm
  rw [e]
  exact h
theorem impl_any (s : ByteArray) (w : World) (hs : s.size ≤ maxLen) :
    Calls Tryz.prog 84 #[.string s] w fun e w' => e = .returned (.tuple #[.string (fst s), .string (snd s)]) ∧ Below w.heap.size w w' := by
  unfold maxLen at hs
  have HT := Lib.hid (trim_any s w)
  have hz := snd_size s
  have hl := lead_le s
  have Hf : Hid (s.extract 0 (s.size - (s.size - lead s)) = fst s) := by
    unfold Hid fst
    congr 1
    omega
  go_enter Tryz.func84, Tryz.ntmps84
  go_wp2_with fail
  refine HT.out.mono ?_
  rintro e w1 ⟨rfl, hb⟩
  clear HT
  go_wp2_with fail
  go_ret2
  exact ⟨by rw [← Hf.out]; rfl, hb⟩
end Go.Proofs.YtangdmjdjiddcaaGreatDoor.split
namespace Go.Proofs.YtangdmjdjiddcaaGreatDoor.split
open Go.ChangeShapes Go.WideShapes Go.ChangeAt Go.RowKit
set_option linter.unusedVariables false

def okD (f : ByteArray) : Bool := decide (0 < f.size ∧ (f.size = 1 ∨ at_ f 0 ≠ 48))
theorem okD_yes {f : ByteArray} (h : 0 < f.size) (h2 : f.size = 1 ∨ at_ f 0 ≠ 48) : okD f = true := decide_eq_true ⟨h, h2⟩
theorem okD_no {f : ByteArray} (h : f.size = 0 ∨ (1 < f.size ∧ at_ f 0 = 48)) : okD f = false := decide_eq_false (by rintro ⟨h1, h2⟩; omega)
theorem digits_any (f : ByteArray) (w : World) (hf : f.size ≤ maxLen) :
    Calls Tryz.prog 86 #[.string f] w fun e w' => e = .returned (.bool (okD f)) ∧ w = w' := by
  unfold maxLen at hf
  by_cases h0 : f.size = 0
  · rw [okD_no (.inl h0)]
    have he2 := empty_yes h0
    go_enter Tryz.func86, Tryz.ntmps86
    go_wp2_with fail
    go_ret
    exact ⟨rfl, rfl⟩
  have he2 := empty_no (f := f) (by omega)
  by_cases h1 : f.size = 1
  · rw [okD_yes (by omega) (.inl h1)]
    go_enter Tryz.func86, Tryz.ntmps86
    go_wp2_with fail
    go_ret
    exact ⟨rfl, rfl⟩
  have ha := at_eq f 0 (by omega)
  have hbd := at_bd f 0
  have hn1 : ¬ (f.size : Int) = 1 := by omega
  have e1 : ((f.size : Int) == 1) = false := by simpa using hn1
  by_cases h2 : at_ f 0 = 48
  · rw [okD_no (.inr ⟨by omega, h2⟩)]
    rw [h2] at ha
    go_enter Tryz.func86, Tryz.ntmps86
    go_wp2_with fail
    go_ret
    exact ⟨rfl, rfl⟩
  · rw [okD_yes (by omega) (.inr h2)]
    have e2 : (at_ f 0 == 48) = false := by simpa using h2
    have e3 : (at_ f 0 != 48) = true := by simpa using h2
    go_enter Tryz.func86, Tryz.ntmps86
    go_wp2_with fail
    go_ret
    exact ⟨rfl, rfl⟩
end Go.Proofs.YtangdmjdjiddcaaGreatDoor.split
namespace Go.Proofs.YtangdmjdjiddcaaGreatDoor.unit
open Go.ChangeShapes Go.WideShapes Go.ChangeAt Go.RowKit Go.Maps Go.WideMaps
set_option linter.unusedVariables false

/-- An entry of a map literal at the operation. -/
theorem wpList_insert_own {H : Type} {P : Program} (w : World) {ops : Array Oper} {rest : List Oper} {o : Oper} {a : Act} {Q : Exit → Act → World → Prop}
    (hg : o.guard = none) (m x v : Operand) (t : TypeId) (hop : o.op = Op.insert t m x v)
    (k e : TypeId) (K : Keyed P k) (ht : P.underlying t = some (.map k e)) (R : Value → Option (DataW H × List MemPlace)) (b n : Nat) (D : DataW H)
    (hm : a.eval m = .map (some b)) (hown : w.ownsMap P k R b n D) (hn : n < maxLen) (key val : Value) (kl : Lit) (hx : a.eval x = key) (hv : a.eval v = val) (hkey : keyOf P k key = some kl)
    (d : DataW H) (ps : List MemPlace) (hval : R val = some (d, ps))
    (hK : ∀ w', w'.ownsMap P k R b (n + 1) (D.put kl d) → w.grownBy w' (some b) → wpList P ops Q rest (a.put o.dst undef) w') :
    wpList P ops Q (o :: rest) a w := by
  refine wpList_plain hg fun K' hK' => ?_
  obtain ⟨w', hrun, r1, r2⟩ := hown.update K ht hn hkey hval
  unfold Oper.wp
  simp [execOp, hop, hm, hx, hv, hrun, Result.andThen]
  exact hK' _ _ (hK w' r1 r2)

theorem law : Keyed Tryz.prog 9 := string_keyed Tryz.underlying9
theorem zeroE (w : World) : (zeroValue 3).run Tryz.prog w = .ok (.int .i64 0) w := by kernel_rfl
def D : DataW Unit := (names.zip vals).foldl (fun m p => m.put (.string p.1) (.lit (.int .i64 p.2))) (.map [])
theorem D_out : D = (((((((((((DataW.map [] : DataW Unit).put (.string []) (.lit (.int .i64 1000))).put (.string [109]) (.lit (.int .i64 1))).put (.string [107]) (.lit (.int .i64 1000000))).put (.string [77]) (.lit (.int .i64 1000000000))).put (.string [71]) (.lit (.int .i64 1000000000000))).put (.string [84]) (.lit (.int .i64 1000000000000000))).put (.string [75, 105]) (.lit (.int .i64 1024000))).put (.string [77, 105]) (.lit (.int .i64 1048576000))).put (.string [71, 105]) (.lit (.int .i64 1073741824000))).put (.string [84, 105]) (.lit (.int .i64 1099511627776000))) := rfl
theorem hit_all : (List.range 10).all (fun j => match D.atKey (.string (names.getD j [])) (.lit (.int .i64 0)) with | .lit (.int .i64 c) => c == vals.getD j 0 && Maps.has D (.string (names.getD j [])) | _ => false) = true := by decide +kernel
theorem hit_at (j : Nat) (h : j < 10) : D.atKey (.string (names.getD j [])) (.lit (.int .i64 0)) = .lit (.int .i64 (vals.getD j 0)) ∧ Maps.has D (.string (names.getD j [])) = true := by
  have h1 := List.all_eq_true.1 hit_all j (List.mem_range.2 h)
  split at h1
  · next c hc =>
    simp only [Bool.and_eq_true, beq_iff_eq] at h1
    rw [hc, h1.1]
    exact ⟨rfl, h1.2⟩
  · cases h1
theorem miss_at {l : List UInt8} (h : ∀ j, j < 10 → names.getD j [] ≠ l) : Maps.has D (.string l) = false := by
  have hne : ∀ j, j < 10 → (Lit.string l) ≠ .string (names.getD j []) := fun j hj e => h j hj (by injection e with e; exact e.symm)
  rw [D_out]
  have h0 : (Lit.string l) ≠ .string [] := hne 0 (by decide)
  have h1 : (Lit.string l) ≠ .string [109] := hne 1 (by decide)
  have h2 : (Lit.string l) ≠ .string [107] := hne 2 (by decide)
  have h3 : (Lit.string l) ≠ .string [77] := hne 3 (by decide)
  have h4 : (Lit.string l) ≠ .string [71] := hne 4 (by decide)
  have h5 : (Lit.string l) ≠ .string [84] := hne 5 (by decide)
  have h6 : (Lit.string l) ≠ .string [75, 105] := hne 6 (by decide)
  have h7 : (Lit.string l) ≠ .string [77, 105] := hne 7 (by decide)
  have h8 : (Lit.string l) ≠ .string [71, 105] := hne 8 (by decide)
  have h9 : (Lit.string l) ≠ .string [84, 105] := hne 9 (by decide)
  rw [has_put_other h9, has_put_other h8, has_put_other h7, has_put_other h6, has_put_other h5, has_put_other h4, has_put_other h3, has_put_other h2, has_put_other h1, has_put_other h0]
  rfl
theorem look (l : List UInt8) : D.atKey (.string l) (.lit (.int .i64 0)) = .lit (.int .i64 (arith.val (unitL l))) ∧ Maps.has D (.string l) = arith.has (unitL l) := by
  rcases or_miss l with ⟨j, hj, rfl⟩ | h
  · rw [hit j hj]
    exact hit_at j hj
  · rw [miss h]
    have h1 := miss_at h
    exact ⟨atKey_of_not_has h1 _, h1⟩

set_option maxRecDepth 100000 in
theorem units_any (w : World) :
    Calls Tryz.prog 95 #[] w fun e w' => e = .returned (.map (some w.heap.size)) ∧ w'.ownsMap Tryz.prog 9 (plainElem Tryz.prog 3) w.heap.size 10 D ∧ Below w.heap.size w w' := by
  have hmm := @run_makeMap Tryz.prog
  go_enter Tryz.func95, Tryz.ntmps95
  have hown := World.ownsMap_made w Tryz.prog 9 (plainElem (H := Unit) Tryz.prog 3)
  have hb : Below w.heap.size w (w.alloc (.map #[] 0)) := (Below.refl _ _).alloc (Nat.le_refl _) _
  go_wp2_with (first | (refine wpList_insert_own _ rfl _ _ _ 137 rfl 9 3 law Tryz.underlying137 _ w.heap.size 0 _ rfl hown (by decide) (.string ⟨#[]⟩) (.int .i64 1000) (.string []) rfl rfl (keyOf_string_mk Tryz.underlying9 (by decide)) (.lit (.int .i64 1000)) [] (plainElem_int Tryz.underlying3 (by decide)) ?_) | fail)
  clear hown
  intro w1 hown hg
  replace hb := hb.grown hg hb.size (fun j hj => by cases hj; exact Nat.le_refl _)
  clear hg
  go_wp2_with (first | (refine wpList_insert_own _ rfl _ _ _ 137 rfl 9 3 law Tryz.underlying137 _ w.heap.size 1 _ rfl hown (by decide) (.string ⟨#[109]⟩) (.int .i64 1) (.string [109]) rfl rfl (keyOf_string_mk Tryz.underlying9 (by decide)) (.lit (.int .i64 1)) [] (plainElem_int Tryz.underlying3 (by decide)) ?_) | fail)
  clear hown
  intro w2 hown hg
  replace hb := hb.grown hg hb.size (fun j hj => by cases hj; exact Nat.le_refl _)
  clear hg
  go_wp2_with (first | (refine wpList_insert_own _ rfl _ _ _ 137 rfl 9 3 law Tryz.underlying137 _ w.heap.size 2 _ rfl hown (by decide) (.string ⟨#[107]⟩) (.int .i64 1000000) (.string [107]) rfl rfl (keyOf_string_mk Tryz.underlying9 (by decide)) (.lit (.int .i64 1000000)) [] (plainElem_int Tryz.underlying3 (by decide)) ?_) | fail)
  clear hown
  intro w3 hown hg
  replace hb := hb.grown hg hb.size (fun j hj => by cases hj; exact Nat.le_refl _)
  clear hg
  go_wp2_with (first | (refine wpList_insert_own _ rfl _ _ _ 137 rfl 9 3 law Tryz.underlying137 _ w.heap.size 3 _ rfl hown (by decide) (.string ⟨#[77]⟩) (.int .i64 1000000000) (.string [77]) rfl rfl (keyOf_string_mk Tryz.underlying9 (by decide)) (.lit (.int .i64 1000000000)) [] (plainElem_int Tryz.underlying3 (by decide)) ?_) | fail)
  clear hown
  intro w4 hown hg
  replace hb := hb.grown hg hb.size (fun j hj => by cases hj; exact Nat.le_refl _)
  clear hg
  go_wp2_with (first | (refine wpList_insert_own _ rfl _ _ _ 137 rfl 9 3 law Tryz.underlying137 _ w.heap.size 4 _ rfl hown (by decide) (.string ⟨#[71]⟩) (.int .i64 1000000000000) (.string [71]) rfl rfl (keyOf_string_mk Tryz.underlying9 (by decide)) (.lit (.int .i64 1000000000000)) [] (plainElem_int Tryz.underlying3 (by decide)) ?_) | fail)
  clear hown
  intro w5 hown hg
  replace hb := hb.grown hg hb.size (fun j hj => by cases hj; exact Nat.le_refl _)
  clear hg
  go_wp2_with (first | (refine wpList_insert_own _ rfl _ _ _ 137 rfl 9 3 law Tryz.underlying137 _ w.heap.size 5 _ rfl hown (by decide) (.string ⟨#[84]⟩) (.int .i64 1000000000000000) (.string [84]) rfl rfl (keyOf_string_mk Tryz.underlying9 (by decide)) (.lit (.int .i64 1000000000000000)) [] (plainElem_int Tryz.underlying3 (by decide)) ?_) | fail)
  clear hown
  intro w6 hown hg
  replace hb := hb.grown hg hb.size (fun j hj => by cases hj; exact Nat.le_refl _)
  clear hg
  go_wp2_with (first | (refine wpList_insert_own _ rfl _ _ _ 137 rfl 9 3 law Tryz.underlying137 _ w.heap.size 6 _ rfl hown (by decide) (.string ⟨#[75, 105]⟩) (.int .i64 1024000) (.string [75, 105]) rfl rfl (keyOf_string_mk Tryz.underlying9 (by decide)) (.lit (.int .i64 1024000)) [] (plainElem_int Tryz.underlying3 (by decide)) ?_) | fail)
  clear hown
  intro w7 hown hg
  replace hb := hb.grown hg hb.size (fun j hj => by cases hj; exact Nat.le_refl _)
  clear hg
  go_wp2_with (first | (refine wpList_insert_own _ rfl _ _ _ 137 rfl 9 3 law Tryz.underlying137 _ w.heap.size 7 _ rfl hown (by decide) (.string ⟨#[77, 105]⟩) (.int .i64 1048576000) (.string [77, 105]) rfl rfl (keyOf_string_mk Tryz.underlying9 (by decide)) (.lit (.int .i64 1048576000)) [] (plainElem_int Tryz.underlying3 (by decide)) ?_) | fail)
  clear hown
  intro w8 hown hg
  replace hb := hb.grown hg hb.size (fun j hj => by cases hj; exact Nat.le_refl _)
  clear hg
  go_wp2_with (first | (refine wpList_insert_own _ rfl _ _ _ 137 rfl 9 3 law Tryz.underlying137 _ w.heap.size 8 _ rfl hown (by decide) (.string ⟨#[71, 105]⟩) (.int .i64 1073741824000) (.string [71, 105]) rfl rfl (keyOf_string_mk Tryz.underlying9 (by decide)) (.lit (.int .i64 1073741824000)) [] (plainElem_int Tryz.underlying3 (by decide)) ?_) | fail)
  clear hown
  intro w9 hown hg
  replace hb := hb.grown hg hb.size (fun j hj => by cases hj; exact Nat.le_refl _)
  clear hg
  go_wp2_with (first | (refine wpList_insert_own _ rfl _ _ _ 137 rfl 9 3 law Tryz.underlying137 _ w.heap.size 9 _ rfl hown (by decide) (.string ⟨#[84, 105]⟩) (.int .i64 1099511627776000) (.string [84, 105]) rfl rfl (keyOf_string_mk Tryz.underlying9 (by decide)) (.lit (.int .i64 1099511627776000)) [] (plainElem_int Tryz.underlying3 (by decide)) ?_) | fail)
  clear hown
  intro w10 hown hg
  replace hb := hb.grown hg hb.size (fun j hj => by cases hj; exact Nat.le_refl _)
  clear hg
  go_wp2_with fail
  go_ret
  exact ⟨rfl, by rw [D_out]; exact hown, hb⟩

set_option maxRecDepth 100000 in
theorem impl_any (s : ByteArray) (w : World) (hs : s.size ≤ maxLen) :
    Calls Tryz.prog 85 #[.string s] w fun e w' => e = .returned (arith.two (unitF s)) ∧ Below w.heap.size w w' := by
  have HU := Lib.hid (units_any w)
  have hkey : keyOf Tryz.prog 9 (.string s) = some (.string s.data.toList) := keyOf_string_mk Tryz.underlying9 hs
  have HL := Lib.hid (look s.data.toList)
  go_enter Tryz.func85, Tryz.ntmps85
  go_wp2_with fail
  refine HU.out.mono ?_
  rintro e w1 ⟨rfl, hown, hb⟩
  clear HU
  go_wp2_with (at_lookup; refine wpList_lookup_own_ok_int _ rfl _ _ 137 rfl 9 3 .i64 law Tryz.underlying137 Tryz.underlying3 (zeroE _) w.heap.size 10 D rfl hown _ _ rfl hkey ?_)
  intro c hat hwc
  rw [HL.out.1] at hat
  rw [HL.out.2]
  obtain rfl : arith.val (unitL s.data.toList) = c := by injection hat with hat; injection hat
  clear hat hwc hown hkey
  go_wp2_with fail
  go_ret2
  exact ⟨rfl, hb⟩
end Go.Proofs.YtangdmjdjiddcaaGreatDoor.unit
namespace Go.Proofs.YtangdmjdjiddcaaGreatDoor.decimal
open Go.ChangeShapes Go.WideShapes Go.ChangeAt Go.RowKit
set_option linter.unusedVariables false

/-- The table of powers of ten holds what its text lays. -/
def Pow (w : World) : Prop := Lib.TabIs Tryz.prog w "internal/strconv.uint64pow10" .u64 Lib.pow10Tab
theorem Pow.below {w w' : World} (h : Pow w) (hb : Below w.heap.size w w') : Pow w' := var_below h hb

theorem grow_below (w : World) (k : Nat) (os : Array Obj) : Below w.heap.size w (Go.Sort.grow (w.drewN k) os) :=
  ⟨rfl, rfl, rfl, by simp [Go.Sort.grow], fun i hi => by
    show (w.heap ++ os)[i]? = w.heap[i]?
    rw [Array.getElem?_append_left hi]⟩

theorem impl_any (n : Int) (w : World) (h0 : -9223372036854775808 ≤ n) (h1 : n ≤ 9223372036854775807) (ht : Pow w) :
    Calls Tryz.prog 34 #[.int .i64 n] w fun e w' => e = .returned (.string ⟨(Lib.itoa n).toArray⟩) ∧ Below w.heap.size w w' := by
  have HI := Lib.hid (Tryz.strconv_Itoa n h0 h1 w ht)
  clear ht
  go_enter Tryz.func34, Tryz.ntmps34
  go_wp2_with fail
  refine HI.out.mono ?_
  rintro e w' ⟨rfl, k, os, rfl⟩
  have hb := grow_below w k os
  generalize Go.Sort.grow (w.drewN k) os = w2 at hb
  go_wp2_with fail
  go_ret
  exact ⟨rfl, hb⟩
end Go.Proofs.YtangdmjdjiddcaaGreatDoor.decimal
namespace Go.Proofs.YtangdmjdjiddcaaGreatDoor.readnum
open Go.ChangeShapes Go.WideShapes Go.ChangeAt Go.RowKit
set_option linter.unusedVariables false

def ErrVar (w : World) (n : String) : Prop := ∃ a : Addr, w.var? Tryz.prog n = some #[.iface 196 (.pointer (some a))]

theorem ErrVar.below {w w' : World} {n : String} (h : ErrVar w n) (hb : Below w.heap.size w w') : ErrVar w' n := by
  obtain ⟨a, h⟩ := h
  exact ⟨a, var_below h hb⟩

theorem upto_no (m : Nat) (hm : (m : Int) ≤ 9223372036854775807) (s : ByteArray) (w : World) (hs : s.size ≤ 1048576) (hE : ErrVar w "strconv.ErrSyntax") (hR : ErrVar w "strconv.ErrRange") (hP : decimal.Pow w) (hno : ∀ n, ¬ Num m s n) :
    Calls Tryz.prog 96 #[.string s, .int .i64 m] w fun e w' => e = .returned (.tuple #[.int .i64 0, .bool false]) ∧ Below w.heap.size w w' := by
  obtain ⟨a1, hE⟩ := hE
  obtain ⟨a2, hR⟩ := hR
  cases hend : Lib.atoiAll s.data.toList
  · rename_i z
    obtain ⟨zb0, zb1⟩ := Lib.atoiAll_bounds hend
    have HA := Lib.hid (Tryz.strconv_Atoi_ok s (by omega) z hend w)
    have hz : ¬ (0 ≤ z ∧ z ≤ (m : Int) ∧ Lib.itoa z = s.data.toList) := by
      rintro ⟨z0, z1, z2⟩
      obtain ⟨n, rfl⟩ := Int.eq_ofNat_of_zero_le z0
      exact hno n ⟨by omega, by rw [← z2, num.itoa_nat]⟩
    have HP := Lib.hid (fun w1 hp => decimal.impl_any z w1 zb0 zb1 hp)
    clear hend hE hR hno
    go_enter Tryz.func96, Tryz.ntmps96
    go_wp2_with fail
    refine HA.out.mono ?_
    rintro e w1 ⟨rfl, hw1⟩
    have hb1 : Below w.heap.size w w1 := by
      rcases hw1 with rfl | ⟨t, rfl⟩
      · exact Below.refl _ _
      · exact Lib.bytesWorld_below _ _ _
    have hp1 := Lib.hid (hP.below hb1)
    clear HA hw1 hP
    by_cases c0 : z < 0
    · go_wp2_with fail
      go_ret2
      exact ⟨rfl, hb1⟩
    by_cases c1 : (m : Int) < z
    · go_wp2_with fail
      go_ret2
      exact ⟨rfl, hb1⟩
    have hne : Lib.itoa z ≠ s.data.toList := fun e => hz ⟨by omega, by omega, e⟩
    have hx : (Lib.itoa z == s.toList) = false := by rw [ByteArray.toList_eq, beq_eq_false_iff_ne]; exact hne
    clear hz hne
    go_wp2_with fail
    refine (HP.out _ hp1.out).mono ?_
    rintro e w2 ⟨rfl, hb2⟩
    clear HP
    go_wp2_with fail
    go_ret2
    exact ⟨rfl, hb1.trans (hb2.mono hb1.size)⟩
  · have HA := Lib.hid (Tryz.strconv_Atoi_syntax_var s (by omega) hend _ _ w hE)
    clear hend hE hR hno
    go_enter Tryz.func96, Tryz.ntmps96
    go_wp2_with fail
    refine HA.out.mono ?_
    rintro e w1 ⟨N, rfl, h2, h3, hb1⟩
    clear HA hP h2 h3
    go_wp2_with fail
    go_ret2
    exact ⟨rfl, hb1⟩
  · have HA := Lib.hid (Tryz.strconv_Atoi_range_var s (by omega) hend _ _ w hR)
    clear hend hE hR hno
    go_enter Tryz.func96, Tryz.ntmps96
    go_wp2_with fail
    refine HA.out.mono ?_
    rintro e w1 ⟨N, rfl, h2, h3, hb1⟩
    clear HA hP h2 h3
    go_wp2_with fail
    go_ret2
    exact ⟨rfl, hb1⟩

theorem upto_yes (m : Nat) (hm : (m : Int) ≤ 9223372036854775807) (s : ByteArray) (w : World) (n : Nat) (hs : s.size ≤ 1048576) (hP : decimal.Pow w) (hn : Num m s n) :
    Calls Tryz.prog 96 #[.string s, .int .i64 m] w fun e w' => e = .returned (.tuple #[.int .i64 n, .bool true]) ∧ Below w.heap.size w w' := by
  have hend : Lib.atoiAll s.data.toList = .ok (n : Int) := by rw [hn.2]; exact num.atoi_dec n (by have := hn.1; omega)
  have hn1 : (n : Int) ≤ (m : Int) := by have := hn.1; omega
  have HA := Lib.hid (Tryz.strconv_Atoi_ok s (by omega) n hend w)
  have HP := Lib.hid (fun w1 hp => decimal.impl_any n w1 (by omega) (by omega) hp)
  have hsame : (⟨(Lib.itoa (n : Int)).toArray⟩ : ByteArray) = s := by rw [num.itoa_nat, ← hn.2]
  have Hsame := Lib.hid hsame
  clear hend hn hsame
  go_enter Tryz.func96, Tryz.ntmps96
  go_wp2_with fail
  refine HA.out.mono ?_
  rintro e w1 ⟨rfl, hw1⟩
  have hb1 : Below w.heap.size w w1 := by
    rcases hw1 with rfl | ⟨t, rfl⟩
    · exact Below.refl _ _
    · exact Lib.bytesWorld_below _ _ _
  have hp1 := Lib.hid (hP.below hb1)
  clear HA hw1 hP
  go_wp2_with fail
  refine (HP.out _ hp1.out).mono ?_
  rintro e w2 ⟨rfl, hb2⟩
  rw [Hsame.out]
  clear HP
  go_wp2_with fail
  go_ret2
  exact ⟨rfl, hb1.trans (hb2.mono hb1.size)⟩

theorem upto_any (m : Nat) (hm : (m : Int) ≤ 9223372036854775807) (s : ByteArray) (w : World) (hs : s.size ≤ 1048576) (hE : ErrVar w "strconv.ErrSyntax") (hR : ErrVar w "strconv.ErrRange") (hP : decimal.Pow w) :
    Calls Tryz.prog 96 #[.string s, .int .i64 m] w fun e w' => e = .returned (.tuple #[.int .i64 (res m s), .bool (flag m s)]) ∧ Below w.heap.size w w' := by
  by_cases h : ∃ n, Num m s n
  · obtain ⟨n, hn⟩ := h
    rw [yes_flag hn, yes_res hn]
    exact upto_yes m hm s w n hs hP hn
  · have hno : ∀ n, ¬ Num m s n := fun n hn => h ⟨n, hn⟩
    rw [no_flag hno, no_res hno]
    exact upto_no m hm s w hs hE hR hP hno
end Go.Proofs.YtangdmjdjiddcaaGreatDoor.readnum
namespace Go.Proofs.YtangdmjdjiddcaaGreatDoor.readnum
open Go.ChangeShapes Go.WideShapes Go.ChangeAt Go.RowKit
set_option linter.unusedVariables false

theorem int_any (s : ByteArray) (w : World) (hs : s.size ≤ 1048576) (hE : ErrVar w "strconv.ErrSyntax") (hR : ErrVar w "strconv.ErrRange") (hP : decimal.Pow w) :
    Calls Tryz.prog 87 #[.string s] w fun e w' => e = .returned (.tuple #[.int .i64 (res 9223372036854775807 s), .bool (flag 9223372036854775807 s)]) ∧ Below w.heap.size w w' := by
  have HU := Lib.hid (upto_any 9223372036854775807 (by decide) s w hs hE hR hP)
  clear hE hR hP
  go_enter Tryz.func87, Tryz.ntmps87
  go_wp2_with fail
  refine HU.out.mono ?_
  rintro e w1 ⟨rfl, hb1⟩
  go_wp2_with fail
  go_ret2
  exact ⟨rfl, hb1⟩
theorem int_yes (s : ByteArray) (w : World) (n : Nat) (hs : s.size ≤ 1048576) (hP : decimal.Pow w) (hn : Num 9223372036854775807 s n) :
    Calls Tryz.prog 87 #[.string s] w fun e w' => e = .returned (.tuple #[.int .i64 n, .bool true]) ∧ Below w.heap.size w w' := by
  have HU := Lib.hid (upto_yes 9223372036854775807 (by decide) s w n hs hP hn)
  clear hP hn
  go_enter Tryz.func87, Tryz.ntmps87
  go_wp2_with fail
  refine HU.out.mono ?_
  rintro e w1 ⟨rfl, hb1⟩
  go_wp2_with fail
  go_ret2
  exact ⟨rfl, hb1⟩
end Go.Proofs.YtangdmjdjiddcaaGreatDoor.readnum
namespace Go.Proofs.YtangdmjdjiddcaaGreatDoor.arith
open Go.ChangeShapes Go.WideShapes Go.ChangeAt Go.RowKit
set_option linter.unusedVariables false

theorem impl_mul (a b : Int) (w : World) (ha : -9223372036854775808 ≤ a ∧ a ≤ 9223372036854775807) (hb : -9223372036854775808 ≤ b ∧ b ≤ 9223372036854775807) :
    Calls Tryz.prog 70 #[.int .i64 a, .int .i64 b] w fun e w' => e = .returned (two (mulF a b)) ∧ w = w' := by
  by_cases h1 : a < 0
  · rw [mul_no (by omega), two_none]
    go_enter Tryz.func70, Tryz.ntmps70
    go_wp2
    go_ret2
    exact ⟨rfl, rfl⟩
  by_cases h2 : b < 0
  · rw [mul_no (by omega), two_none]
    go_enter Tryz.func70, Tryz.ntmps70
    go_wp2
    go_ret2
    exact ⟨rfl, rfl⟩
  by_cases h3 : b = 0
  · subst h3
    rw [mul_yes (by omega) (by omega) (by omega), two_some, Int.mul_zero]
    go_enter Tryz.func70, Tryz.ntmps70
    go_wp2
    go_ret2
    exact ⟨rfl, rfl⟩
  have hr := room (a := a) (b := b) (by omega)
  have hn : 0 ≤ a * b := Int.mul_nonneg (by omega) (by omega)
  by_cases h4 : a ≤ 9223372036854775807 / b
  · have h5 := hr.1 h4
    rw [mul_yes (by omega) (by omega) h5, two_some]
    clear hr
    go_enter Tryz.func70, Tryz.ntmps70
    go_wp2
    go_ret2
    exact ⟨rfl, rfl⟩
  · rw [mul_no (fun h => h4 (hr.2 h.2.2)), two_none]
    clear hr
    go_enter Tryz.func70, Tryz.ntmps70
    go_wp2
    go_ret2
    exact ⟨rfl, rfl⟩
end Go.Proofs.YtangdmjdjiddcaaGreatDoor.arith
