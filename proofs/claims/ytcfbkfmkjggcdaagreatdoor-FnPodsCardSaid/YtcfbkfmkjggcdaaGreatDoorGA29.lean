/- Merged: CompS Sort1 OnceS OnceV ElN. -/
import Derived.Test.YtcfbkfmkjggcdaaGreatDoorGA3
import Derived.Test.YtcfbkfmkjggcdaaGreatDoorGA4
import Derived.Test.YtcfbkfmkjggcdaaGreatDoorGA16
import Derived.Test.YtcfbkfmkjggcdaaGreatDoorGA1
import Derived.Test.YtcfbkfmkjggcdaaGreatDoorGA27
import Derived.Laws.Cover1
import Derived.Lib.SliceRun
import Derived.Shelf.SlSortCmp.NoneTotal
import Derived.Test.YtcfbkfmkjggcdaaGreatDoorGA8
import Derived.Test.YtcfbkfmkjggcdaaGreatDoorGA10
set_option linter.unusedVariables false
namespace Go.Proofs.YtcfbkfmkjggcdaaGreatDoor
namespace need
open Go.ChangeShapes Go.WideShapes Go.ChangeAt Go.RowKit ty lab dedup
def IJ (w : World) (b : Nat) : Prop:=w.cell? ⟨b,0,none⟩ = some (.func (.func 98) #[] #[])
set_option maxRecDepth 100000 in
theorem JW (x y : ByteArray) (b : Nat) (w : World) (h : IJ w b) :
    Calls Tryz.prog 164 #[.string x,.string y,.pointer (some ⟨b,0,none⟩)] w fun e w'=>e = .returned (.bool (yes (x = y))) ∧ Below w.heap.size w w':=by
  have HC:=Lib.hid (D7 x y)
  have h0 : (fC x y == 0) = yes (x = y):=by
    rcases lT x y with ⟨h1,h2⟩ | ⟨h1,h2,h3⟩ | ⟨h1,h2,h3⟩
    · rw [aQ h2,h1]; rfl
    · rw [aP h2]; exact beq_eq_false_iff_ne.2 (by omega)
    · rw [aP h2]; exact beq_eq_false_iff_ne.2 (by omega)
  rw [← h0];clear h0;unfold IJ at h;generalize fC x y = r at HC;go_enter Tryz.func164,Tryz.ntmps164;go_wp2_with fail;refine (HC.out _).mono ?_;rintro e w1 ⟨rfl,rfl⟩;go_wp2_with fail;go_ret;exact ⟨rfl,Below.refl _ _⟩
def yO (l : List ByteArray) (w0 : World) (B g o c : Nat) (w : World) (e : Ending) (w' : World) : Prop:=
  ∃ (d : List ByteArray) (xs : List Value),d = iy id l l.length ∧ e = .returned (.slice (some ⟨g,o,none⟩) d.length c) ∧ xs.length = l.length ∧ d.length ≤ l.length ∧ xs.take d.length = aT d ∧ Part w0 B g o w' xs ∧ w.grownBy w' (some g)
set_option maxRecDepth 100000 in
set_option maxHeartbeats 16000000 in
theorem La (l : List ByteArray) (w0 : World) (B g o c b : Nat) (w : World) (hown : Part w0 B g o w (aT l)) (hc1 : l.length ≤ c) (hc2 : c ≤ maxLen) (hn : l.length ≤ 1048576) (hb : IJ w b) (hbg : b ≠ g) :
    Calls Tryz.prog 163 #[.slice (some ⟨g,o,none⟩) l.length c,.func (.func 164) #[] #[.pointer (some ⟨b,0,none⟩)]] w fun e w'=>yO l w0 B g o c w e w':=by
  unfold maxLen at hc2;have mq : g < w.heap.size:=Nat.lt_of_lt_of_le hown.lt hown.gr.size;have hblt:=World.block_lt_of_cell? _ _ hb;have dY:=Lib.hid hown;have Hb:=Lib.hid hb;have iT : Hid ((∀ q (h : q + 1 < l.length),l[q + 1] ≠ l[q]) → iy id l l.length = l):=fun h=>D5 (κ:=id) h;clear hown hb;by_cases h2 : l.length < 2
  · have e:=iT.out fun q hq=>by omega
    have hlt2 : (l.length : Int) < 2:=(by omega);have HR:=Lib.hid (show yO l w0 B g o c w (.returned (.slice (some ⟨g,o,none⟩) l.length c)) w from ⟨l,_,e.symm,rfl,bG _,Nat.le_refl _,List.take_of_length_le (by rw [bG]; exact Nat.le_refl _),dY.out,World.grownBy.refl _ _⟩);clear e iT dY Hb;go_enter Tryz.func163,Tryz.ntmps163;go_wp2_with fail;go_ret;exact HR.out
  have Xc : ¬ (l.length : Int) < 2:=(by omega);go_enter Tryz.func163,Tryz.ntmps163;go_wp2_with fail
  go_loopw [5] (fun i wr=>∃ k : Nat,1 ≤ k ∧ k ≤ l.length ∧ i = .int .i64 k ∧ Hid (∀ q (h : q + 1 < l.length),q + 1 < k → l[q + 1] ≠ l[q]) ∧ Below w.heap.size w wr) (fun i _=>l.length - (intOf i).toNat)
  case atStart=>exact ⟨1,Nat.le_refl _,by omega,rfl,fun q _ hq=>by omega,Below.refl _ _⟩
  case round=>
    obtain ⟨k,hk1,hk,rfl,hall,hbel⟩:=hrel;obtain ⟨m,hm⟩ : ∃ m,m + 1 = k:=⟨k - 1,by omega⟩;by_cases hlt : k < l.length
    · have hml : m < l.length:=(by omega);have hown1:=dY.out.below hbel;have q1 : ∀ p : ak wr,p.v.cell? ⟨g,o + k,none⟩ = some (.string l[k]):=fun p=>p.cell (Nat.lt_of_lt_of_le mq hbel.size) (hown1.cell k _ (bV l k hlt));have q0 : ∀ p : ak wr,p.v.cell? ⟨g,o + m,none⟩ = some (.string l[m]):=fun p=>p.cell (Nat.lt_of_lt_of_le mq hbel.size) (hown1.cell m _ (bV l m (by omega)));have HE:=Lib.hid (fun p : ak wr=>JW l[k] l[m] b p.v (p.cell (Nat.lt_of_lt_of_le hblt hbel.size) ((hbel.cell hblt).trans Hb.out)));have yZ : (k : Int) - 1 = (m : Int):=(by omega);have BN : IntKind.i64.wrap (m : Int) = (m : Int):=IntWalk.i64_in _ (by omega);have hm0 : (0 : Int) ≤ (m : Int):=(by omega);have hm1 : (m : Int) < (l.length : Int):=(by omega);have hj0 : (0 : Int) ≤ (k : Int):=(by omega);have hj1 : (k : Int) < (l.length : Int):=(by omega);have bg:=Lib.hid hbel;by_cases he : l[k] = l[m]
      case neg=>
        have Hn : Hid (∀ q (h : q + 1 < l.length),q + 1 < k + 1 → l[q + 1] ≠ l[q]):=fun q h hq=>by
          by_cases e : q = m
          · subst e; subst hm; exact he
          · exact hall.out q h (by omega)
        rw [aP he] at HE;clear he hall hbel hown1 iT hm;generalize l[k] = x at *;generalize l[m] = y at *;go_wp2_with fail;refine wp_region_quiet_below (by kernel_rfl) (by kernel_rfl) ?_
        repeat (refine @wpQuiet_step _ _ _ _ _ _ _ ?_; intro K hK; go_simp; first | (refine hK _ ?_; clear hK K) | (apply Exists.intro; refine ⟨fun _=>?_,hK _ ?_⟩; (first | (go_at_call 164; exact Calls.aF (HE.out _))); clear hK K))
        refine wpQuiet_nil ?_;intro _ hw';obtain ⟨p,rfl⟩:=hw';go_wp2_with fail
        go_roundw
        case rel=>exact ⟨k + 1,by omega,by omega,by go_num,Hn.out,bg.out.trans (p.h.mono bg.out.size)⟩
        case measure=>simp [intOf]; omega
      rw [aQ he] at HE
      have DC:=Lib.hid (show kR id l (k + 1) k l from by
        subst hm;exact kR.start (κ:=id) hlt (fun q h hq=>hall.out q h hq) he)
      have hown1:=Lib.hid hown1;clear he hall hbel iT hm;generalize l[k] = x at q1 HE;generalize l[m] = y at q0 HE;go_wp2_with fail;refine wp_region_quiet_below (by kernel_rfl) (by kernel_rfl) ?_
      repeat (refine @wpQuiet_step _ _ _ _ _ _ _ ?_; intro K hK; go_simp; first | (refine hK _ ?_; clear hK K) | (apply Exists.intro; refine ⟨fun _=>?_,hK _ ?_⟩; (first | (go_at_call 164; exact Calls.aF (HE.out _))); clear hK K))
      refine wpQuiet_nil ?_;intro _ hw';obtain ⟨p,rfl⟩:=hw';have hown2:=Lib.hid (hown1.out.below p.h);have jk:=Lib.hid (aR (bg.out.trans (p.h.mono bg.out.size)) (some g));clear q0 q1 HE yZ BN hm0 hm1;go_wp2_with fail
      go_loopw [5,7] (fun i1 i2 wi=>∃ (kk k2 : Nat) (dk : List ByteArray),i1 = .int .i64 kk ∧ i2 = .int .i64 k2 ∧ 1 ≤ k2 ∧ Hid (kR id l (k + k2) kk dk) ∧ Part w0 B g o wi (aT dk) ∧ w.grownBy wi (some g)) (fun _ i2 _=>l.length - (k + (intOf i2).toNat))
      case atStart=>exact ⟨k,1,l,rfl,rfl,Nat.le_refl _,DC.out,hown2.out,jk.out⟩
      case round=>
        obtain ⟨kk,k2,dk,rfl,rfl,hk2,hI,hown,hgr⟩:=hrel;have hcl:=hI.out;have Xd:=hcl.lt;have hdl:=hcl.len;have hle:=hcl.le;have hgw : g < wr.heap.size:=Nat.lt_of_lt_of_le mq hgr.size;have hbw : wr.heap[b]? = w.heap[b]?:=hgr.block b hblt (fun e=>hbg (by injection e));have hbw2 : b < wr.heap.size:=Nat.lt_of_lt_of_le hblt hgr.size;have hb2 : IJ wr b:=(World.cell?_of_block hbw).trans Hb.out;have dY:=Lib.hid hown;have nI:=Lib.hid hgr;by_cases hlt2 : k + k2 < l.length
        · obtain ⟨m2,hm2⟩ : ∃ m2,m2 + 1 = k2:=⟨k2 - 1,by omega⟩;have hkm : k + m2 < l.length:=(by omega)
          have r1 : ∀ p : ak wr,p.v.cell? ⟨g,o + k + k2,none⟩ = some (.string l[k + k2]):=fun p=>p.cell hgw (by
            rw [Nat.add_assoc,← hcl.high (k + k2) (by omega) hlt2 (by omega)];exact hown.cell (k + k2) _ (bV dk (k + k2) (by omega)))
          have r0 : ∀ p : ak wr,p.v.cell? ⟨g,o + k + m2,none⟩ = some (.string l[k + m2]):=fun p=>p.cell hgw (by
            rw [Nat.add_assoc,← hcl.high (k + m2) (by omega) hkm (by omega)];exact hown.cell (k + m2) _ (bV dk (k + m2) (by omega)))
          have HE:=Lib.hid (fun p : ak wr=>JW l[k + k2] l[k + m2] b p.v (p.cell hbw2 hb2));have i1 : (k2 : Int) - 1 = (m2 : Int):=(by omega);have i2 : IntKind.i64.wrap (m2 : Int) = (m2 : Int):=IntWalk.i64_in _ (by omega);have i3 : (0 : Int) ≤ (m2 : Int):=(by omega);have i4 : (0 : Int) ≤ (k2 : Int):=(by omega);have i5 : k2 < l.length - k:=(by omega);have i6 : m2 < l.length - k:=(by omega);have i7 : (k2 : Int) < ((l.length - k : Nat) : Int):=(by omega);have i8 : (m2 : Int) < ((l.length - k : Nat) : Int):=(by omega);by_cases he2 : l[k + k2] = l[k + m2]
          · have Hn:=Lib.hid (show kR id l (k + (k2 + 1)) kk dk from by
              subst hm2;exact hcl.skip (κ:=id) hlt2 he2)
            rw [aQ he2] at HE;clear he2 hI hown hgr hcl hb2 hbw hm2 hdl hle;generalize l[k + k2] = x2 at r1 HE;generalize l[k + m2] = y2 at r0 HE;go_wp2_with fail;refine wp_region_quiet_below (by kernel_rfl) (by kernel_rfl) ?_
            repeat (refine @wpQuiet_step _ _ _ _ _ _ _ ?_; intro K hK; go_simp; first | (refine hK _ ?_; clear hK K) | (apply Exists.intro; refine ⟨fun _=>?_,hK _ ?_⟩; (first | (go_at_call 164; exact Calls.aF (HE.out _))); clear hK K))
            refine wpQuiet_nil ?_;intro _ hw';obtain ⟨p2,rfl⟩:=hw';have hown3:=Lib.hid (dY.out.below p2.h);have lG:=Lib.hid (aA nI.out (aR p2.h (some g)));go_wp2_with fail
            go_roundw
            case rel=>exact ⟨kk,k2 + 1,dk,rfl,by go_num,by omega,Hn.out,hown3.out,lG.out⟩
            case measure=>simp [intOf]; omega
          · have Hn:=Lib.hid (show kR id l (k + (k2 + 1)) (kk + 1) (dk.set kk l[k + k2]) from by
              subst hm2;exact hcl.keep (κ:=id) hlt2 he2)
            rw [aP he2] at HE
            have hst : ∀ p : ak wr,∃ u,p.v.cell? ⟨g,o + kk,none⟩ = some u ∧ p.v.frozen? ⟨g,o + kk,none⟩ = false:=fun p=>by
              have h1:=hown.below p.h;exact ⟨_,h1.cell kk _ (bV dk kk (by omega)),h1.fz kk (by rw [bG]; omega)⟩
            have hS:=Lib.hid (fun p : ak wr=>And.intro ((hown.below p.h).stored kk (by rw [bG]; omega) (.string l[k + k2])) (grownBy_setCell (w:=p.v) ⟨g,o + kk,none⟩ (.string l[k + k2])));have hset : (aT dk).set kk (.string l[k + k2]) = aT (dk.set kk l[k + k2]):=(by simp [aT,List.map_set]);rw [hset] at hS;have hkn : kk < l.length:=(by omega);have j1 : (kk : Int) < (l.length : Int):=(by omega);have j2 : (0 : Int) ≤ (kk : Int):=(by omega);clear he2 hI hown hgr hcl hb2 hbw hm2 hdl hle hset;generalize l[k + k2] = x2 at r1 HE Hn hS;generalize l[k + m2] = y2 at r0 HE;go_wp2_with fail;refine wp_region_quiet_below (by kernel_rfl) (by kernel_rfl) ?_
            repeat (refine @wpQuiet_step _ _ _ _ _ _ _ ?_; intro K hK; go_simp; first | (refine hK _ ?_; clear hK K) | (apply Exists.intro; refine ⟨fun _=>?_,hK _ ?_⟩; (first | (go_at_call 164; exact Calls.aF (HE.out _))); clear hK K))
            refine wpQuiet_nil ?_;intro _ hw';obtain ⟨p2,rfl⟩:=hw';obtain ⟨u,hu1,hu2⟩:=hst p2;have hown3:=Lib.hid (hS.out p2).1;have lG:=Lib.hid (aA nI.out (aA (aR p2.h (some g)) (hS.out p2).2));go_wp2_with fail
            go_roundw
            case rel=>exact ⟨kk + 1,k2 + 1,_,by go_num,by go_num,by omega,Hn.out,hown3.out,lG.out⟩
            case measure=>simp [intOf]; omega
        · have hend : k + k2 = l.length:=(by omega);have e1:=hcl.KO;have e2:=hcl.out;rw [hend] at e1 e2;have hkk : kk < l.length:=(by omega)
          have Xe : ∀ ty,(Builtin.clear_ #[67] ty #[.slice (some ⟨g,o + kk,none⟩) (l.length - kk) (c - kk)]).run Tryz.prog wr = .ok (.tuple #[]) (wr.setCells g (o + kk) (List.replicate (l.length - kk) (.string ⟨#[]⟩))):=
            fun ty=>Lib.run_clear_slice wr _ _ ty _ Tryz.underlying67 Tryz.zeroValue9 rfl rfl g (o + kk) _ _ (by omega) (fun j hj=>by rw [Nat.add_assoc,hown.cell (kk + j) _ (bV dk (kk + j) (by omega))]; rfl) (fun j hj=>by rw [Nat.add_assoc]; exact hown.fz (kk + j) (by rw [bG]; omega))
          have hs1:=Part.setCells (List.replicate (l.length - kk) (Value.string ⟨#[]⟩)) kk hown (by rw [bG,List.length_replicate]; omega);have hs2 : w.grownBy (wr.setCells g (o + kk) (List.replicate (l.length - kk) (.string ⟨#[]⟩))) (some g):=aA hgr (pz _ _ _);have hs3 : (pO (aT dk) kk (List.replicate (l.length - kk) (Value.string ⟨#[]⟩))).take kk = aT (dk.take kk):=(by rw [qX _ _ _ _ (Nat.le_refl _)]; simp [aT,List.map_take]);rw [e2] at hs3;have HR:=Lib.hid (show yO l w0 B g o c w (.returned (.slice (some ⟨g,o,none⟩) kk c)) (wr.setCells g (o + kk) (List.replicate (l.length - kk) (.string ⟨#[]⟩))) from ⟨_,_,rfl,by rw [e1],by rw [xL,bG]; omega,by rw [e1]; omega,by rw [e1]; exact hs3,hs1,hs2⟩);have j0 : ¬ k2 < l.length - k:=(by omega);have j1 : (kk : Int) ≤ (l.length : Int):=(by omega);have j2 : (0 : Int) ≤ (kk : Int):=(by omega);have j3 : ¬ c = kk:=(by omega);have j4 : kk ≤ c:=(by omega);clear hI hown hgr hcl hb2 hbw hdl hle e1 e2 hs1 hs2 hs3 nI dY;go_wp2_with fail;go_ret;exact HR.out
    · have hkl : k = l.length:=(by omega);clear hm;subst hkl;have e:=iT.out fun q hq=>hall.out q hq (by omega);have HR:=Lib.hid (show yO l w0 B g o c w (.returned (.slice (some ⟨g,o,none⟩) l.length c)) wr from ⟨l,_,e.symm,rfl,bG _,Nat.le_refl _,List.take_of_length_le (by rw [bG]; exact Nat.le_refl _),dY.out.below hbel,aR hbel _⟩);clear e iT hall hbel dY Hb;go_wp2_with fail;go_ret;exact HR.out
end need
section
open Go Go.RowKit Go.Sort
variable {α : Type} [Inhabited α]
theorem IK {w0 w : World} {B g o : Nat} {enc : α → Value} {d : List α} (h : Part w0 B g o w (d.map enc)) : Holds enc w g o d.toArray:=by
  intro j hj;have hj' : j < d.length:=(by simpa using hj);refine ⟨?_,h.fz j (by simpa using hj')⟩;rw [h.cellAt j (by simpa using hj'),getElem!_pos d.toArray j hj];simp
theorem vY {w : World} {g o n : Nat} {os : Array Obj} (enc : α → Value) (d : Array α) (hg : g < w.heap.size) : (sortWorld enc w g o n d os).heap[g]? = (w.heap[g]?).map (onCells (putCells enc o d)):=by
  unfold sortWorld;rw [heap_grow_old _ _ (by simpa using hg)];simp [putRow,mapBlock,Sort.ahead,Array.getElem?_modify]
theorem vZ {w : World} {g o n : Nat} {os : Array Obj} (enc : α → Value) (d : Array α) (hg : g < w.heap.size) (m : Nat) :
    (sortWorld enc w g o n d os).cell? ⟨g,m,none⟩ = if o ≤ m ∧ m < o + d.size then (w.cell? ⟨g,m,none⟩).map (fun _=>enc d[m - o]!) else w.cell? ⟨g,m,none⟩:=by
  have e:=vY (o:=o) (n:=n) (os:=os) enc d hg;unfold World.cell?;simp only at e ⊢;rw [e];cases hb : w.heap[g]? with
  | none=>simp
  | some ob=>
    cases ob with
    | cells c t fr=>
      simp only [Option.map_some,onCells,Option.isSome_none,Bool.false_eq_true,if_false];unfold putCells;rw [Array.getElem?_mapIdx]
      split
      · rfl
      · cases c[m]? <;> rfl
    | _=>simp [onCells]
theorem rV {w : World} {g o n : Nat} {os : Array Obj} (enc : α → Value) (d : Array α) (hg : g < w.heap.size) (m : Nat) :
    (sortWorld enc w g o n d os).frozen? ⟨g,m,none⟩ = w.frozen? ⟨g,m,none⟩:=by
  have e:=vY (o:=o) (n:=n) (os:=os) enc d hg;unfold World.frozen?;simp only at e ⊢;rw [e];cases hb : w.heap[g]? with
  | none=>rfl
  | some ob=>cases ob <;> rfl
theorem qA {w : World} {g o n : Nat} {os : Array Obj} (enc : α → Value) (d : Array α) : w.grownBy (sortWorld enc w g o n d os) (some g):=by
  refine ⟨rfl,rfl,rfl,by simp [sortWorld],fun q hq hne=>?_⟩;unfold sortWorld;rw [heap_grow_old _ _ (by simpa using hq)];have : g ≠ q:=fun e=>hne (by rw [e]);simp [putRow,mapBlock,Sort.ahead,Array.getElem?_modify,this]
theorem Gp {w0 w : World} {B g o n : Nat} {os : Array Obj} {enc : α → Value} {d d2 : List α} (hl : d2.length = d.length) (h : Part w0 B g o w (d.map enc)) : Part w0 B g o (sortWorld enc w g o n d2.toArray os) (d2.map enc):=by
  have hg : g < w.heap.size:=Nat.lt_of_lt_of_le h.lt h.gr.size;refine ⟨h.base,h.lt,fun j u hu=>?_,fun j hj=>?_,aA h.gr (qA _ _),fun m hm=>?_⟩
  · have hj : j < d2.length:=(by have:=(List.getElem?_eq_some_iff.1 hu).1; simpa using this);rw [vZ enc d2.toArray hg,if_pos ⟨Nat.le_add_right _ _,by simp; omega⟩,h.cellAt j (by simp; omega)];rw [List.getElem?_map,List.getElem?_eq_getElem hj] at hu;injection hu with hu;rw [← hu,Nat.add_sub_cancel_left,getElem!_pos d2.toArray j (by simpa using hj)];simp
  · rw [rV enc d2.toArray hg];exact h.fz j (by simp at hj ⊢; omega)
  · rw [List.length_map] at hm;refine (h.out m (by rw [List.length_map]; omega)).trans ⟨?_,rV enc d2.toArray hg m⟩;show (sortWorld enc w g o n d2.toArray os).cell? ⟨g,m,none⟩ = _;rw [vZ enc d2.toArray hg,if_neg (by simp; omega)]
end
namespace need
open Go.ChangeShapes Go.WideShapes Go.ChangeAt Go.RowKit ty lab dedup
open Go.Sort (SWO PermIn SortedIn grow)
instance : Inhabited ByteArray:=⟨⟨#[]⟩⟩
theorem yP (x y : ByteArray) : ltOf fC x y = aJ x y:=by
  unfold ltOf;exact wZ x y
theorem abK : SWO (ltOf fC) where
  irrefl x:=by rw [yP]; exact lS _
  trans x y z h1 h2:=by rw [yP] at *; exact iW _ _ _ h1 h2
  ntrans x y z h1 h2:=by rw [yP] at *; exact nR _ _ _ h1 h2
set_option maxRecDepth 100000 in
theorem Lb (l : List ByteArray) (w0 : World) (B g o c : Nat) (w : World) (hown : Part w0 B g o w (aT l)) (hn : l.length ≤ 1048576) :
    Calls Tryz.prog 162 #[.slice (some ⟨g,o,none⟩) l.length c,.func (.func 98) #[] #[]] w fun e w'=>e = .returned (.tuple #[]) ∧
      ∃ d : List ByteArray,List.Perm d l ∧ d.Pairwise (fun a b=>aJ b a = false) ∧ Part w0 B g o w' (aT d) ∧ w.grownBy w' (some g):=by
  have mq : g < w.heap.size:=Nat.lt_of_lt_of_le hown.lt hown.gr.size;have eg : ∀ args w,(callFunc 98 args).run Tryz.prog w = .ok (.enter 98 args) w:=enters_of Tryz.func98 (by kernel_rfl) rfl;have hcon:=Any.slices_SortFunc Tryz.sortStr Value.string (fun _=>rfl) fC abK 98 #[] g o c l.toArray w eg (fun m os dk hs x y=>(D7 x y _).mono fun _ _ ⟨h1,h2⟩=>⟨h1,0,#[],by rw [Sort.grow_empty]; exact h2.symm⟩) (IK (enc:=Value.string) hown) mq (by simp; omega);have hs : l.toArray.size = l.length:=(by simp);rw [hs] at hcon;refine hcon.mono ?_;rintro e w' ⟨rfl,d',n,os,hp,hso,rfl⟩;obtain ⟨hsz,_,hperm⟩:=hp;rw [← hs,Array.extract_size] at hperm;have e2 : d'.extract 0 l.toArray.size = d':=(by rw [← hsz]; exact Array.extract_size);rw [e2] at hperm;have hl : d'.toList.length = l.length:=(by rw [Array.length_toList,hsz,hs]);refine ⟨rfl,d'.toList,by simpa using hperm,?_,Gp hl hown,qA _ _⟩
  · rw [List.pairwise_iff_getElem];intro i j hi hj hij;have h1:=hso i j (Nat.zero_le _) hij (by omega);have hi' : i < d'.size:=(by simpa using hi);have hj' : j < d'.size:=(by simpa using hj);rw [getElem!_pos d' i hi',getElem!_pos d' j hj',yP] at h1;exact h1
def JX (l : List ByteArray) (w0 : World) (B g o c : Nat) (w : World) (e : Ending) (w' : World) : Prop:=
  ∃ xs : List Value,e = .returned (.slice (some ⟨g,o,none⟩) (aU aJ l).length c) ∧ xs.length = l.length ∧ (aU aJ l).length ≤ l.length ∧ xs.take (aU aJ l).length = aT (aU aJ l) ∧ Part w0 B g o w' xs ∧ w.grownBy w' (some g)
set_option maxRecDepth 100000 in
set_option maxHeartbeats 8000000 in
theorem Lc (l : List ByteArray) (w0 : World) (B g o c : Nat) (w : World) (hown : Part w0 B g o w (aT l)) (hc1 : l.length ≤ c) (hc2 : c ≤ maxLen) (hn : l.length ≤ 1048576) :
    Calls Tryz.prog 97 #[.slice (some ⟨g,o,none⟩) l.length c,.func (.func 98) #[] #[]] w fun e w'=>JX l w0 B g o c w e w':=by
  have mq : g < w.heap.size:=Nat.lt_of_lt_of_le hown.lt hown.gr.size;obtain ⟨W,hW⟩ : ∃ W,W = w.alloc (.cells #[.func (.func 98) #[] #[]] 125):=⟨_,rfl⟩;have hbW : Below w.heap.size w W:=(by rw [hW]; exact (Below.refl _ _).alloc (Nat.le_refl _) _)
  have hcW : IJ W w.heap.size:=by
    unfold IJ;rw [hW,cell_of_row _ _ _ _ _ _ (heap_alloc_new w _)];rfl
  have HS:=Lib.hid (Lb l w0 B g o c W (hown.below hbW) hn);have c0 : W.cell? ⟨w.heap.size,0,none⟩ = some (.func (.func 98) #[] #[]):=hcW;have Hc:=Lib.hid hcW;have Hb:=Lib.hid hbW;have HW:=Lib.hid hW;have W9:=hc2;clear hown hbW hcW hW hc2;go_enter Tryz.func97,Tryz.ntmps97;go_wp2_with fail;rw [← HW.out];go_wp2_with fail;refine HS.out.mono ?_;rintro e w2 ⟨rfl,d,hp,hpw,hown2,jk⟩;have hbg : w.heap.size ≠ g:=(by omega);have hblt:=World.block_lt_of_cell? _ _ Hc.out;have hc2 : IJ w2 w.heap.size:=(World.cell?_of_block (jk.block w.heap.size hblt (fun e=>hbg (by injection e)))).trans Hc.out;have hl:=hp.length_eq;have HC:=Lib.hid (La d w0 B g o c w.heap.size w2 hown2 (by omega) W9 (by omega) hc2 hbg);rw [hl] at HC;have nI:=Lib.hid (aA (aR Hb.out (some g)) jk);have TY:=Lib.hid (vR Wh hp hpw);have Hl:=Lib.hid hl;clear hp hpw hown2 jk hc2 hl c0;go_wp2_with fail;refine HC.out.mono ?_;rintro e w3 ⟨d2,xs,hd2,rfl,hx1,hx2,hx3,hown3,lG⟩;have hd3 : d2 = aU aJ l:=hd2.trans TY.out;subst hd3;have HR:=Lib.hid (show JX l w0 B g o c w (.returned (.slice (some ⟨g,o,none⟩) (aU aJ l).length c)) w3 from ⟨xs,rfl,by rw [hx1,Hl.out],by rw [← Hl.out]; exact hx2,hx3,hown3,aA nI.out lG⟩);clear hd2 hown3 lG hx1 hx2 hx3;go_wp2_with fail;go_ret;exact HR.out
end need
namespace need
open Go.ChangeShapes Go.WideShapes Go.ChangeAt Go.RowKit ty lab dedup
set_option maxRecDepth 100000 in
theorem Ox (A : Option Addr) (c : Nat) (fv : Value) (w : World) :
    Calls Tryz.prog 163 #[.slice A 0 c,fv] w fun e w'=>e = .returned (.slice A 0 c) ∧ w = w':=by
  go_enter Tryz.func163,Tryz.ntmps163;go_wp2_with fail;go_ret;exact ⟨rfl,rfl⟩
set_option maxRecDepth 100000 in
theorem Oy (A : Option Addr) (c : Nat) (w : World) :
    Calls Tryz.prog 97 #[.slice A 0 c,.func (.func 98) #[] #[]] w fun e w'=>e = .returned (.slice A 0 c) ∧ Below w.heap.size w w':=by
  have HS:=Lib.hid (fun w'=>AnyF.slices_SortFunc_none { Tryz.sortStr with } A c (.func (.func 98) #[] #[]) w');have HC:=Lib.hid (fun fv w'=>Ox A c fv w');obtain ⟨W,hW⟩ : ∃ W,W = w.alloc (.cells #[.func (.func 98) #[] #[]] 125):=⟨_,rfl⟩;have hbW : Below w.heap.size w W:=(by rw [hW]; exact (Below.refl _ _).alloc (Nat.le_refl _) _)
  have c0 : W.cell? ⟨w.heap.size,0,none⟩ = some (.func (.func 98) #[] #[]):=by
    rw [hW,cell_of_row _ _ _ _ _ _ (heap_alloc_new w _)];rfl
  have HW:=Lib.hid hW;have Hb:=Lib.hid hbW;clear hW hbW;go_enter Tryz.func97,Tryz.ntmps97;go_wp2_with fail;rw [← HW.out];go_wp2_with fail;change Calls Tryz.prog 162 _ _ _;refine (HS.out _).mono ?_;rintro e w2 ⟨rfl,rfl⟩;go_wp2_with fail;refine (HC.out _ _).mono ?_;rintro e w3 ⟨rfl,rfl⟩;go_wp2_with fail;go_ret;exact ⟨rfl,Hb.out⟩
theorem Ld (l : List ByteArray) (B f c : Nat) (A : Option Addr) (F : List Cl) (w : World) (h : dG w B f (.slice A l.length c) (.sl 1 l.length (l.flatMap Str.row)) F) (hn : l.length ≤ 1048576) :
    Calls Tryz.prog 97 #[.slice A l.length c,.func (.func 98) #[] #[]] w fun e w'=>∃ A' c' G,e = .returned (.slice A' (aU aJ l).length c') ∧ dG w' B 2 (.slice A' (aU aJ l).length c') (.sl 1 (aU aJ l).length ((aU aJ l).flatMap Str.row)) G ∧ G.Nodup ∧ (∀ x ∈ G,x ∈ F) ∧ nu F w w':=by
  have hz : ∀ x ∈ l,x.size ≤ maxLen:=by
    obtain ⟨_,_,_,_,_,_,hz⟩:=Str.opened h.lies;exact hz
  have hz2 : ∀ x ∈ aU aJ l,x.size ≤ maxLen:=fun x hx=>hz x (gu _ _ x hx);rw [Str.flat] at h;by_cases h0 : 0 < l.length
  case neg=>
    have e : l = []:=List.eq_nil_of_length_eq_zero (by omega);subst e;obtain ⟨A',c',hA,h1,h2⟩:=h.eD;injection hA with hA _ hc;subst hA hc;refine (Oy A c w).mono ?_;rintro e w' ⟨rfl,hb⟩;exact ⟨A,c,[],rfl,CK h2,List.nodup_nil,fun x hx=>by simp at hx,nu.of_below hb⟩
  · obtain ⟨_,h1,h2,g,o,rfl,rfl,hp⟩:=h.part h0;refine (Lc l w B g o c w hp h1 h2 hn).mono ?_;rintro e w' ⟨xs,rfl,k1,k2,k3,k4,k5⟩;have hkc:=k4.kept (by omega);rw [k1] at hkc;have hl2 : (aT (aU aJ l)).length = (aU aJ l).length:=bG _;refine ⟨_,c,rO g o (aU aJ l).length,rfl,?_,qd _ _ _,fun x hx=>?_,hkc⟩
    · rw [Str.flat];refine CJ k4.base (Nat.lt_of_lt_of_le k4.lt k4.gr.size) (by omega) h2 (fun j hj=>k4.cell j _ ?_) (fun j hj=>k4.fz j (by omega)) hz2;have h5 : (xs.take (aU aJ l).length)[j]? = (aT (aU aJ l))[j]?:=(by rw [k3]);rw [List.getElem?_take_of_lt hj,bV _ j hj] at h5;exact h5
    · obtain ⟨a1,a2,a3⟩:=jN.1 hx;exact jN.2 ⟨a1,a2,by omega⟩
end need
namespace need
open Go Go.RowKit ty
structure dS (w : World) (B f g : Nat) where
  x : Need
  us : List Value
  F : List Cl
  own : bF w B f us x.row F
  out : ∀ p ∈ F,p.1 ≠ g
theorem dS.len {w : World} {B f g : Nat} (d : dS w B f g) : d.us.length = 3:=by
  rw [d.own.1,Need.au]
theorem Gq {w : World} {B f g : Nat} : ∀ (l : List Need) (xs : List Value) (F : List Cl),bF w B f xs (l.flatMap Need.row) F → (∀ p ∈ F,p.1 ≠ g) → ∃ d : List (dS w B f g),d.map dS.x = l ∧ d.flatMap dS.us = xs ∧ d.flatMap dS.F = F
  | [],xs,F,h,_=>by
    obtain ⟨rfl,rfl⟩:=bF.nO h;exact ⟨[],rfl,rfl,rfl⟩
  | y :: l,xs,F,h,hg=>by
    rw [List.flatMap_cons] at h;obtain ⟨v0,_,G0,_,rfl,rfl,o0,h⟩:=bF.bO h;obtain ⟨v1,_,G1,_,rfl,rfl,o1,h⟩:=bF.bO h;obtain ⟨v2,r,G2,F',rfl,rfl,o2,h⟩:=bF.bO h;obtain ⟨d,h1,h2,h3⟩:=Gq l r F' h (fun p hp=>hg p (by simp [hp]))
    refine ⟨⟨y,[v0,v1,v2],G0 ++ (G1 ++ (G2 ++ [])),bF.cons o0 (bF.cons o1 (bF.cons o2 bF.nil)),fun p hp=>hg p (by
      simp only [List.mem_append,List.append_nil] at hp ⊢;rcases hp with hp | hp | hp <;> simp [hp])⟩ :: d,by rw [List.map_cons,h1],?_,?_⟩
    · rw [List.flatMap_cons,h2]; rfl
    · rw [List.flatMap_cons,h3]; simp
theorem dS.T9 {w w' : World} {B f g : Nat} (hs : w.heap.size ≤ w'.heap.size) (hk : ∀ x,x ≠ g → x < w.heap.size → w'.heap[x]? = w.heap[x]?) (e : dS w B f g) : bF w' B f e.us e.x.row e.F:=
  e.own.kept hs (fun p hp=>fQ.of_block (hk p.1 (e.out p hp) (e.own.range p hp).2))
theorem JY {w w' : World} {B f g : Nat} (hs : w.heap.size ≤ w'.heap.size) (hk : ∀ x,x ≠ g → x < w.heap.size → w'.heap[x]? = w.heap[x]?) : ∀ d : List (dS w B f g),bF w' B f (d.flatMap dS.us) ((d.map dS.x).flatMap Need.row) (d.flatMap dS.F)
  | []=>bF.nil
  | e :: d=>by
    rw [List.flatMap_cons,List.map_cons,List.flatMap_cons,List.flatMap_cons];exact (e.T9 hs hk).append (JY hs hk d)
theorem dS.kept {w w' : World} {B f g : Nat} (hs : w.heap.size ≤ w'.heap.size) (hk : ∀ x,x ≠ g → x < w.heap.size → w'.heap[x]? = w.heap[x]?) (e : dS w B f g) : aH w' f e.us e.x.row:=
  (e.T9 hs hk).lies
theorem sW {w : World} {B f g : Nat} (d : List (dS w B f g)) : (d.flatMap dS.us).length = d.length * 3:=aM (f:=dS.us) dS.len d
theorem Le {w : World} {B f g : Nat} {d d' : List (dS w B f g)} (h : List.Perm d' d) (hn : (d.flatMap dS.F).Nodup) : (d'.flatMap dS.F).Nodup:=
  (List.Perm.nodup_iff (h.flatMap_right dS.F)).2 hn
theorem Q0 {w : World} {B f g : Nat} {d d' : List (dS w B f g)} (h : List.Sublist d' d) (hn : (d.flatMap dS.F).Nodup) : (d'.flatMap dS.F).Nodup:=
  List.Nodup.sublist (by
    induction h with
    | slnil=>exact List.nil_sublist _
    | cons a h ih=>rw [List.flatMap_cons] at hn ⊢; exact (ih (List.nodup_append.1 hn).2.1).trans (List.sublist_append_right _ _)
    | cons_cons a h ih=>rw [List.flatMap_cons] at hn; rw [List.flatMap_cons,List.flatMap_cons]; exact (List.Sublist.refl _).append (ih (List.nodup_append.1 hn).2.1)) hn
end need
end Go.Proofs.YtcfbkfmkjggcdaaGreatDoor
