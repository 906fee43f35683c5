/- slices.SortFunc at requirements, impl.sortedOnce at requirements. -/
import Derived.Test.YtjcfaepklakpkaaGreatDoorCompN
import Derived.Test.YtjcfaepklakpkaaGreatDoorGSort
import Derived.Test.YtjcfaepklakpkaaGreatDoorShelf
namespace Go.Proofs.YtjcfaepklakpkaaGreatDoor.need
open Go.ChangeShapes Go.WideShapes Go.ChangeAt Go.RowKit ty lab dedup
open Go.Sort (SWO PermIn SortedIn grow)
set_option linter.unusedVariables false

def cfN {w0 : World} {B f g : Nat} (x y : El1 w0 B f g) : Int := cmpN x.x y.x
theorem lt_cfN {w0 : World} {B f g : Nat} (x y : El1 w0 B f g) : ltOf cfN x y = lessN x.x y.x := by
  unfold ltOf cfN
  exact cmpN_less x.x y.x
theorem lessN_nt (a b c : Need) (h1 : lessN a b = false) (h2 : lessN b c = false) : lessN a c = false := by
  cases h : lessN a c with
  | false => rfl
  | true =>
    exfalso
    by_cases hba : lessN b a = true
    · have := lessN_tr b a c hba h
      rw [h2] at this; cases this
    · have hba : lessN b a = false := by simpa using hba
      rw [lessN_total a b h1 hba, h2] at h
      cases h
theorem swoN {w0 : World} {B f g : Nat} : SWO (ltOf (cfN (w0 := w0) (B := B) (f := f) (g := g))) where
  irrefl x := by rw [lt_cfN]; exact lessN_irr _
  trans x y z h1 h2 := by rw [lt_cfN] at *; exact lessN_tr _ _ _ h1 h2
  ntrans x y z h1 h2 := by rw [lt_cfN] at *; exact lessN_nt _ _ _ h1 h2
set_option maxRecDepth 100000 in
theorem sort_needs {w0 : World} {B f g : Nat} (l : List (El1 w0 B f g)) (c : Nat) (w : World) (hw0 : w0.grownBy w (some g)) (hown : w.ownsRow B 31 3 (.slice (some ⟨g, 0, none⟩) l.length c) l.length (l.flatMap El1.us)) (hn : l.length ≤ 1048576) :
    Calls Tryz.prog 54 #[.slice (some ⟨g, 0, none⟩) l.length c, .func (.func 28) #[] #[]] w fun e w' => e = .returned (.tuple #[]) ∧
      ∃ d : List (El1 w0 B f g), List.Perm d l ∧ d.Pairwise (fun a b => lessN b.x a.x = false) ∧ w'.ownsRow B 31 3 (.slice (some ⟨g, 0, none⟩) d.length c) d.length (d.flatMap El1.us) ∧ w.grownBy w' (some g) := by
  by_cases h0 : l = []
  · subst h0
    refine (AnyF.slices_SortFunc_none Tryz.sortNeed (some ⟨g, 0, none⟩) c _ w).mono ?_
    rintro e w' ⟨rfl, rfl⟩
    exact ⟨rfl, [], List.Perm.refl _, List.Pairwise.nil, hown, World.grownBy.refl _ _⟩
  have hpos : 0 < l.length := by cases l with
    | nil => exact absurd rfl h0
    | cons a r => simp
  haveI : Inhabited (El1 w0 B f g) := ⟨l[0]⟩
  have eg : ∀ args w, (callFunc 28 args).run Tryz.prog w = .ok (.enter 28 args) w := enters_of Tryz.func28 (by kernel_rfl) rfl
  have hcon := AnyQ.slices_SortFunc Tryz.sortNeed 3 Tryz.isAgg31 Tryz.sizeOf31 El1.us El1.len (fun x v hv => x.own.ones v hv) cfN swoN 28 #[] g 0 c l.toArray w eg (fun m os dk hs x y => cmp_gr x.x y.x f f x.us y.us _ (el_lies (grown_trans hw0 (grownBy_sortedK _ _)) x) (el_lies (grown_trans hw0 (grownBy_sortedK _ _)) y)) (holdsK_own (enc := El1.us) (k := 3) El1.len hown) (hown.lt g rfl).2 (by simp; omega)
  have hs : l.toArray.size = l.length := by simp
  rw [hs] at hcon
  refine hcon.mono ?_
  rintro e w' ⟨rfl, d', n, os, hp, hso, rfl⟩
  obtain ⟨hsz, _, hperm⟩ := hp
  rw [← hs, Array.extract_size] at hperm
  have e2 : d'.extract 0 l.toArray.size = d' := by rw [← hsz]; exact Array.extract_size
  rw [e2] at hperm
  have hl : d'.toList.length = l.length := by rw [Array.length_toList, hsz, hs]
  refine ⟨rfl, d'.toList, by simpa using hperm, ?_, ?_, grownBy_sortedK _ _⟩
  · rw [List.pairwise_iff_getElem]
    intro i j hi hj hij
    have h1 := hso i j (Nat.zero_le _) hij (by omega)
    have hi' : i < d'.size := by simpa using hi
    have hj' : j < d'.size := by simpa using hj
    rw [getElem!_pos d' i hi', getElem!_pos d' j hj', lt_cfN] at h1
    exact h1
  · have := own_sortedK (n := n) (os := os) (enc := El1.us) El1.len hl hown
    rw [hl] at this ⊢
    exact this
/-- The sorted requirements, each once, in the same block. -/
def OnceOutN {w0 : World} {B f g : Nat} (l : List (El1 w0 B f g)) (c : Nat) (w : World) (e : Ending) (w' : World) : Prop :=
  ∃ d : List (El1 w0 B f g), d.map El1.x = dsort lessN (l.map El1.x) ∧ ((l.flatMap El1.F).Nodup → (d.flatMap El1.F).Nodup) ∧ e = .returned (.slice (some ⟨g, 0, none⟩) d.length c) ∧ w'.ownsRow B 31 3 (.slice (some ⟨g, 0, none⟩) d.length c) d.length (d.flatMap El1.us) ∧ w.grownBy w' (some g)
set_option maxRecDepth 100000 in
set_option maxHeartbeats 8000000 in
theorem once_needs {w0 : World} {B f g : Nat} (l : List (El1 w0 B f g)) (c : Nat) (w : World) (hw0 : w0.grownBy w (some g)) (hown : w.ownsRow B 31 3 (.slice (some ⟨g, 0, none⟩) l.length c) l.length (l.flatMap El1.us)) (hn : l.length ≤ 1048576) :
    Calls Tryz.prog 27 #[.slice (some ⟨g, 0, none⟩) l.length c, .func (.func 28) #[] #[]] w fun e w' => OnceOutN l c w e w' := by
  have hglt := (hown.lt g rfl).2
  obtain ⟨W, hW⟩ : ∃ W, W = w.alloc (.cells #[.func (.func 28) #[] #[]] 49) := ⟨_, rfl⟩
  have hbW : Below w.heap.size w W := by rw [hW]; exact (Below.refl _ _).alloc (Nat.le_refl _) _
  have hcW : CmpN1 W w.heap.size := by
    unfold CmpN1
    rw [hW, cell_of_row _ _ _ _ _ _ (heap_alloc_new w _)]
    rfl
  have hgW : w0.grownBy W (some g) := grown_trans hw0 (grown_of_below hbW _)
  have HS := Lib.hid (sort_needs l c W hgW (own_below' hown hbW) hn)
  have c0 : W.cell? ⟨w.heap.size, 0, none⟩ = some (.func (.func 28) #[] #[]) := hcW
  have Hc := Lib.hid hcW
  have Hb := Lib.hid hbW
  have HW := Lib.hid hW
  have HgW := Lib.hid hgW
  clear hown hbW hcW hW hgW hw0
  go_enter Tryz.func27, Tryz.ntmps27
  go_wp2_with fail
  rw [← HW.out]
  go_wp2_with fail
  refine HS.out.mono ?_
  rintro e w2 ⟨rfl, d, hp, hpw, hown2, hgr2⟩
  have hbg : w.heap.size ≠ g := by omega
  have hblt := World.block_lt_of_cell? _ _ Hc.out
  have hc2 : CmpN1 w2 w.heap.size := (World.cell?_of_block (hgr2.block w.heap.size hblt (fun e => hbg (by injection e)))).trans Hc.out
  have hl := hp.length_eq
  have HC := Lib.hid (comp_needs d c w.heap.size w2 (grown_trans HgW.out hgr2) hown2 (by omega) hc2 hbg)
  rw [hl] at HC
  have Hgr := Lib.hid (grown_trans (grown_of_below Hb.out (some g)) hgr2)
  have Hsq : Hid ((sqTo El1.x d d.length).map El1.x = dsort lessN (l.map El1.x)) := by
    show (sqTo El1.x d d.length).map El1.x = _
    rw [sq_map]
    have h1 := sq_dsort ordN (l := l.map El1.x) (d := d.map El1.x) (hp.map _) (List.pairwise_map.2 hpw)
    rw [List.length_map] at h1
    exact h1
  have Hnd : Hid ((l.flatMap El1.F).Nodup → ((sqTo El1.x d d.length).flatMap El1.F).Nodup) := fun h => els_sub (by
    have := sq_sub El1.x d d.length (Nat.le_refl _)
    rwa [List.take_length] at this) (els_nodup hp h)
  clear hp hpw hown2 hgr2 hc2 hl c0
  go_wp2_with fail
  refine HC.out.mono ?_
  rintro e w3 ⟨d2, hd2, rfl, hown3, hgr3⟩
  have HR := Lib.hid (show OnceOutN l c w (.returned (.slice (some ⟨g, 0, none⟩) d2.length c)) w3 from ⟨d2, by rw [hd2]; exact Hsq.out, by rw [hd2]; exact Hnd.out, rfl, hown3, grown_trans Hgr.out hgr3⟩)
  clear hd2 hown3 hgr3 Hsq Hnd
  go_wp2_with fail
  go_ret
  exact HR.out
end Go.Proofs.YtjcfaepklakpkaaGreatDoor.need
