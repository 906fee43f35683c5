/- FnExactReframed: the tied card out of the walk. The row lists package-level variables of the library's (tables, sentinels) with what the program's text lays in them. -/
import Derived.Test.YtljahpngngmecaaDoorCards
import Derived.Test.YtljahpngngmecaaDoorTie
import Derived.Test.YtljahpngngmecaaDoorFnExactReframed
import Derived.WalkKit
import Derived.ProofKit
import Derived.OpenShut
import Derived.ShutString
import Derived.ChangeOld
import Derived.Below
import Derived.Deep.DeepHandedRow
import Derived.Deep.DeepWitnessRowRef
import Derived.Lib.LaidTab
import Derived.Stop.LaidErr
import Derived.OpenVars
namespace Go.Proofs.YtljahpngngmecaaDoor.fnExactReframedP
open Go.ChangeShapes Go.WideShapes Go.ChangeAt Go.RowKit
open Go.ChangeMaps (open_string shut_string)
set_option linter.unusedVariables false

theorem own : ownKnob Tryd.prog.godebug = none := by kernel_rfl
theorem laidOut : laidOutB Tryd.prog = true := by kernel_rfl
theorem star : "*" ++ "errors.errorString" = "*errors.errorString" := by decide
theorem one_name (u : TypeId) (h : Tryd.prog.typeName? 3 u = some "*errors.errorString") : u = 87 :=
  typeName_ptr_named (nm := "errors.errorString") (by rw [star]; kernel_rfl) (by kernel_rfl) (by decide) u (by rw [star]; exact h)
theorem fact_SENTS {W : World} (h : laidMet Tryd.prog Rows.fnExactReframedRow.laid W) : Sents Tryd.prog 87 ["loop.example/g00968/impl.errFrameShort", "loop.example/g00968/impl.errFrameMagic", "loop.example/g00968/impl.errFrameVersion", "loop.example/g00968/impl.errFrameLength", "loop.example/g00968/impl.errFrameSum"] W :=
  sents_here Tryd.underlying51 one_name Tryd.underlying87 Tryd.underlying113 rfl rfl Tryd.underlying9 (by kernel_rfl) (by kernel_rfl) _ [("loop.example/g00968/impl.errFrameShort", [116, 104, 101, 32, 116, 101, 120, 116, 32, 105, 115, 32, 115, 104, 111, 114, 116, 101, 114, 32, 116, 104, 97, 110, 32, 97, 32, 102, 114, 97, 109, 101, 32, 119, 105, 116, 104, 111, 117, 116, 32, 97, 32, 112, 97, 121, 108, 111, 97, 100]), ("loop.example/g00968/impl.errFrameMagic", [116, 104, 101, 32, 116, 101, 120, 116, 32, 100, 111, 101, 115, 32, 110, 111, 116, 32, 98, 101, 103, 105, 110, 32, 119, 105, 116, 104, 32, 116, 104, 101, 32, 109, 97, 103, 105, 99, 32, 98, 121, 116, 101, 115]), ("loop.example/g00968/impl.errFrameVersion", [116, 104, 101, 32, 118, 101, 114, 115, 105, 111, 110, 32, 105, 115, 32, 110, 111, 116, 32, 105, 110, 32, 116, 104, 101, 32, 114, 97, 110, 103, 101]), ("loop.example/g00968/impl.errFrameLength", [116, 104, 101, 32, 108, 101, 110, 103, 116, 104, 32, 105, 115, 32, 110, 111, 116, 32, 116, 104, 97, 116, 32, 111, 102, 32, 116, 104, 101, 32, 112, 97, 121, 108, 111, 97, 100, 44, 32, 111, 114, 32, 116, 111, 111, 32, 103, 114, 101, 97, 116]), ("loop.example/g00968/impl.errFrameSum", [116, 104, 101, 32, 99, 104, 101, 99, 107, 115, 117, 109, 32, 100, 111, 101, 115, 32, 110, 111, 116, 32, 109, 97, 116, 99, 104])] (List.forall_mem_cons.2 ⟨⟨0, by kernel_rfl, by kernel_rfl⟩, List.forall_mem_cons.2 ⟨⟨1, by kernel_rfl, by kernel_rfl⟩, List.forall_mem_cons.2 ⟨⟨2, by kernel_rfl, by kernel_rfl⟩, List.forall_mem_cons.2 ⟨⟨3, by kernel_rfl, by kernel_rfl⟩, List.forall_mem_cons.2 ⟨⟨4, by kernel_rfl, by kernel_rfl⟩, fun _ h => by cases h⟩⟩⟩⟩⟩) (h)

/-- A world for the witness: the settled one, each listed variable holding what its initialiser lays. -/
noncomputable def laidWorld (os : Os) : World :=
  let M := (World.settled Tryd.prog os).heap.size
  let w0 := World.holding Tryd.prog os ⟨#[.cells #[.string ⟨#[116, 104, 101, 32, 116, 101, 120, 116, 32, 105, 115, 32, 115, 104, 111, 114, 116, 101, 114, 32, 116, 104, 97, 110, 32, 97, 32, 102, 114, 97, 109, 101, 32, 119, 105, 116, 104, 111, 117, 116, 32, 97, 32, 112, 97, 121, 108, 111, 97, 100]⟩] 113, .cells #[.string ⟨#[116, 104, 101, 32, 116, 101, 120, 116, 32, 100, 111, 101, 115, 32, 110, 111, 116, 32, 98, 101, 103, 105, 110, 32, 119, 105, 116, 104, 32, 116, 104, 101, 32, 109, 97, 103, 105, 99, 32, 98, 121, 116, 101, 115]⟩] 113, .cells #[.string ⟨#[116, 104, 101, 32, 118, 101, 114, 115, 105, 111, 110, 32, 105, 115, 32, 110, 111, 116, 32, 105, 110, 32, 116, 104, 101, 32, 114, 97, 110, 103, 101]⟩] 113, .cells #[.string ⟨#[116, 104, 101, 32, 108, 101, 110, 103, 116, 104, 32, 105, 115, 32, 110, 111, 116, 32, 116, 104, 97, 116, 32, 111, 102, 32, 116, 104, 101, 32, 112, 97, 121, 108, 111, 97, 100, 44, 32, 111, 114, 32, 116, 111, 111, 32, 103, 114, 101, 97, 116]⟩] 113, .cells #[.string ⟨#[116, 104, 101, 32, 99, 104, 101, 99, 107, 115, 117, 109, 32, 100, 111, 101, 115, 32, 110, 111, 116, 32, 109, 97, 116, 99, 104]⟩] 113], #[], []⟩
  let put (h : Array Obj) (g : Nat) (cs : Array Value) : Array Obj := h.modify g fun
    | .cells _ t frozen => .cells cs t frozen
    | o => o
  let h0 := put (w0.heap) 0 #[.iface 87 (.pointer (some ⟨M + 0, 0, none⟩))]
  let h1 := put h0 1 #[.iface 87 (.pointer (some ⟨M + 1, 0, none⟩))]
  let h2 := put h1 2 #[.iface 87 (.pointer (some ⟨M + 2, 0, none⟩))]
  let h3 := put h2 3 #[.iface 87 (.pointer (some ⟨M + 3, 0, none⟩))]
  let h4 := put h3 4 #[.iface 87 (.pointer (some ⟨M + 4, 0, none⟩))]
  { w0 with heap := h4 }
theorem laid_met (os : Os) : laidMet Tryd.prog Rows.fnExactReframedRow.laid ((laidWorld os).forCall (fun _ _ => 0) ⟨#[], #[.string ByteArray.empty, .int .i64 0], []⟩).memory :=
  laidMet_of_run' 8 (by kernel_rfl) (by kernel_rfl)
theorem vars_some {H : Type} (l : List H) (h : l.length = 5) : ∃ x0 x1 x2 x3 x4, l = [x0, x1, x2, x3, x4] := by
  match l, h with
  | [x0, x1, x2, x3, x4], _ => exact ⟨x0, x1, x2, x3, x4, rfl⟩
theorem vars_length {H : Type} {enc : TypeId × Value → H} {P : Program} {w : World} {sp : Nat → Bool} : ∀ {ns : List String} {gs : List (DataW H)} {ps : List MemPlace}, DataW.TrodVars enc P w sp ns gs ps → gs.length = ns.length
  | [], [], _, _ => rfl
  | [], _ :: _, _, h => h.elim
  | _ :: _, [], _, h => h.elim
  | _ :: _, _ :: _, _, h => by
    obtain ⟨_, _, _, _, _, _, _, _, _, _, hs, _⟩ := h
    simp [vars_length hs]
theorem witness_row (os : Os) {H : Type} (enc : TypeId × Value → H) :
    (OpenSpec.ofChange Rows.fnExactReframedSpec).preRow enc Tryd.prog Tryd.f7 Rows.fnExactReframedRow.domain false Rows.fnExactReframedRow.laid ((laidWorld os).forCall (fun _ _ => 0) ⟨#[], #[.string ByteArray.empty, .int .i64 0], []⟩).memory #[.string ByteArray.empty, .int .i64 0] := by
  have hw : (DataW.whole enc Tryd.prog ((laidWorld os).forCall (fun _ _ => 0) ⟨#[], #[.string ByteArray.empty, .int .i64 0], []⟩).memory Tryd.f7.params.toList Rows.fnExactReframedSpec.vars false (#[.string ByteArray.empty, .int .i64 0] : Array Value).toList 8).map (fun x => (x.1, x.2.1)) = some ([.lit (.string []), .lit (.int .i64 0)], [.held (enc (87, .pointer (some ⟨(World.settled Tryd.prog os).heap.size + 0, 0, none⟩))), .held (enc (87, .pointer (some ⟨(World.settled Tryd.prog os).heap.size + 1, 0, none⟩))), .held (enc (87, .pointer (some ⟨(World.settled Tryd.prog os).heap.size + 2, 0, none⟩))), .held (enc (87, .pointer (some ⟨(World.settled Tryd.prog os).heap.size + 3, 0, none⟩))), .held (enc (87, .pointer (some ⟨(World.settled Tryd.prog os).heap.size + 4, 0, none⟩)))]) := by kernel_rfl
  obtain ⟨⟨x1, x2, x3⟩, hx, hx1⟩ := Option.map_eq_some_iff.1 hw
  simp only [Prod.mk.injEq] at hx1
  obtain ⟨rfl, rfl⟩ := hx1
  exact OpenSpec.preRow_of_cond 8 hx (by kernel_rfl) (fun k hk => by cases hk) (by kernel_rfl) (laid_met os)

set_option maxRecDepth 100000 in
theorem lifted (os : Os) (started : os.Started) (H : Type) (enc : TypeId × Value → H) (F : Stop.Interp) :
    ReturnsInHanded {} Tryd.checked os 7 .any ((OpenSpec.ofChange Rows.fnExactReframedSpec).preRow enc Tryd.prog Tryd.f7 Rows.fnExactReframedRow.domain false Rows.fnExactReframedRow.laid) (((OpenSpec.ofChange Rows.fnExactReframedSpec).at F).post enc Tryd.prog Tryd.f7 false true false false) := by
  refine returnsInHanded_of_row (C := Tryd.checked) (s := OpenSpec.ofChange Rows.fnExactReframedSpec) own started (by kernel_rfl) Tryd.func7
    (witness_row_atRef (enc := enc) (C := Tryd.checked) false (laidWorld os) #[.string ByteArray.empty, .int .i64 0] rfl (by kernel_rfl) (by kernel_rfl) (by kernel_rfl) (witness_row os enc)) ?_
  intro W base args ds gs before hval0 hW hcnd _ _ hL0 _ _
  have hL : laidMet Tryd.prog Rows.fnExactReframedRow.laid W := hL0
  have hval : ∀ (j : Nat) t v, Tryd.f7.params[j]? = some t → args[j]? = some v → Value.okWide Tryd.prog W .any base t v := hval0
  have hW' := hW
  obtain ⟨p, q, hA0, hV, rfl, hfz, hnd⟩ := hW
  have hA : DataW.TrodAll enc Tryd.prog W 0 (fun _ => true) true Tryd.f7.params.toList args.toList ds p := hA0
  rw [Tryd.params7] at hA hval
  obtain ⟨v0, vs0, d0, ds0, p0, q0, hargs, rfl, rfl, h0, r0⟩ := trodAll_cons hA
  obtain ⟨v1, vs1, d1, ds1, p1, q1, rfl, rfl, rfl, h1, r1⟩ := trodAll_cons r0
  obtain ⟨rfl, rfl, rfl⟩ := trodAll_nil r1
  obtain rfl : args = #[v0, v1] := by cases args; simp_all
  obtain ⟨g0, g1, g2, g3, g4, rfl⟩ := vars_some gs (vars_length hV)
  obtain ⟨a0, rfl, rfl, rfl, w0⟩ := open_string Tryd.underlying9 (hval 0 9 v0 rfl rfl) h0
  obtain ⟨a1, rfl, rfl, rfl, w1⟩ := open_int Tryd.underlying3 (hval 1 3 v1 rfl rfl) h1
  clear hA0 hval0
  refine (fnExactReframed.walk a0 a1 W w0 w1 (fact_SENTS hL)).mono fun e W' ⟨he, bel⟩ => ?_
  subst he
  exact ⟨_, rfl, _, _, _, [], _, _, hW', trodAll_mk1 (shut_bool Tryd.underlying4 _), (trodAll_cons_mk (shut_string Tryd.underlying9 w0) (trodAll_cons_mk (shut_int Tryd.underlying3 w1) trodAll_mk0)), bel.trodVars laidOut (by kernel_rfl) hV, bel.frame _, fun h => by cases h⟩

theorem said : Rows.FnExactReframedSaid :=
  OpenClaim.holds_of_cond 7 Tryd.f7 rfl rfl rfl rfl rfl rfl rfl ⟨rfl, rfl, rfl, rfl, rfl⟩ rfl rfl rfl rfl rfl (by kernel_rfl) Tryd.func7 (by kernel_rfl)
    (of_decide_eq_true (by kernel_rfl)) (by unfold Func.isWrapper; first | (rw [if_pos (by decide +kernel)]; kernel_rfl) | (rw [if_neg (by decide +kernel)]; exact ⟨rfl, rfl⟩))
    (fun os started H enc _ F => by rw [OpenClaim.pre_eq_preRow]; exact lifted os started H enc F)

theorem plain (f : FuncId) (fn : Func) (hf : Tryd.pinned.checked.prog.funcNamed "loop.example/g00968/laws.FnExactReframed" = some f) (hfn : Tryd.pinned.checked.prog.funcs[f]? = some fn) :
    true = Tryd.pinned.checked.prog.looks [] ∧ ∀ (j : Nat) t, fn.params[j]? = some t → Tryd.pinned.checked.prog.wantsStandIn t = false := by
  obtain rfl : f = 7 := Option.some.inj ((show Tryd.prog.funcNamed "loop.example/g00968/laws.FnExactReframed" = some 7 by kernel_rfl).symm.trans hf) |>.symm
  obtain rfl : fn = Tryd.f7 := (Option.some.inj (Tryd.func7.symm.trans hfn)).symm
  refine ⟨by kernel_rfl, fun j t ht => ?_⟩
  rw [Tryd.params7] at ht
  have hm := Array.mem_of_getElem? ht
  simp at hm
  rcases hm with rfl | rfl
  · exact (show Tryd.prog.wantsStandIn 9 = false by kernel_rfl)
  · exact (show Tryd.prog.wantsStandIn 3 = false by kernel_rfl)

/-- THE CARD. -/
theorem proved : Rows.FnExactReframedCardSaid :=
  Claim7.holds_tied_plain_at .later [] _ _ _ _ said (fun _ h => by cases h) (by kernel_rfl) (fun _ h => by cases h) fnExactReframed_row_tie rfl ⟨rfl, rfl⟩ (by kernel_rfl) rfl plain (by kernel_rfl)
#print axioms proved
end Go.Proofs.YtljahpngngmecaaDoor.fnExactReframedP
