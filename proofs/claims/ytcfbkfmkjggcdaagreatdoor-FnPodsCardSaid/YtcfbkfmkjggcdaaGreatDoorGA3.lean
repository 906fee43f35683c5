/- Merged: GrB CmpI SqM NmS AddI SumIntI RuneM. -/
import Derived.Test.YtcfbkfmkjggcdaaGreatDoorGA1
import Derived.Sort.Grow
import Derived.Test.YtcfbkfmkjggcdaaGreatDoorGA0
import GoSem.Core.Utf8
set_option linter.unusedVariables false
namespace Go.Proofs.YtcfbkfmkjggcdaaGreatDoor
section
open Go Go.RowKit
def Gr (w w' : World) : Prop:=∃ q os,w' = Sort.grow (w.drewN q) os
theorem Gr.refl (w : World) : Gr w w:=⟨0,#[],by rw [Sort.grow_empty]; rfl⟩
theorem Gr.trans {a b c : World} (h : Gr a b) (k : Gr b c) : Gr a c:=by
  obtain ⟨q,os,rfl⟩:=h;obtain ⟨q',os',rfl⟩:=k;refine ⟨q + q',os ++ os',?_⟩;show Sort.grow (Sort.grow ((a.drewN q).drewN q') os) os' = _;rw [Sort.grow_grow,World.drewN_drewN]
theorem Gr.alloc {a w : World} (h : Gr a w) (o : Obj) : Gr a (w.alloc o):=h.trans ⟨0,#[o],by rw [Sort.alloc_eq_grow]; rfl⟩
theorem Gr.drewN {a w : World} (h : Gr a w) (n : Nat) : Gr a (w.drewN n):=h.trans ⟨n,#[],by rw [Sort.grow_empty]⟩
theorem Gr.drew {a w : World} (h : Gr a w) : Gr a w.drew:=h.trans ⟨1,#[],by rw [Sort.grow_empty]; rfl⟩
theorem Gr.below {w w' : World} (h : Gr w w') : Below w.heap.size w w':=by
  obtain ⟨q,os,rfl⟩:=h;refine ⟨rfl,rfl,rfl,?_,fun k hk=>?_⟩
  · show w.heap.size ≤ (w.heap ++ os).size;simp
  · show (w.heap ++ os)[k]? = w.heap[k]?;rw [Array.getElem?_append_left hk]
structure qH (w : World) where
  v : World
  h : Gr w v
def qH.start (w : World) : qH w:=⟨w.drewN 1,(Gr.refl w).drewN 1⟩
instance (w : World) : Inhabited (qH w):=⟨qH.start w⟩
theorem uR {P : Program} {id : Nat} {Q : Exit → Act → World → Prop} {a : Act} {w : World} {l : List Oper} (hm : P.follows .mixedOrders = true) (hB : Region.lexB .any l.toArray = true)
    (h : wpQuiet P l.toArray (fun w'=>∃ p : qH w,w' = p.v) (fun a'=>∀ w',(∃ p : qH w,w' = p.v) → Q .normal a' w') l a) : (Code.region id l.toArray true).wp P Q a w:=
  wp_region_quiet (C:=fun w'=>∃ p : qH w,w' = p.v) hm hB ⟨qH.start w,rfl⟩ (by simpa using h)
theorem qH.cell {w : World} {a : Addr} {v : Value} (hb : a.block < w.heap.size) (h : w.cell? a = some v) (p : qH w) : p.v.cell? a = some v:=
  (World.cell?_of_block (p.h.below.block _ hb)).trans h
theorem Calls.TV {P : Program} {f : FuncId} {args : Array Value} {w : World} {p : qH w} {v : Value}
    (h : Calls P f args p.v fun e w'=>e = .returned v ∧ Gr p.v w') : Calls P f args p.v fun e w''=>e = .returned v ∧ ∃ q : qH w,w'' = q.v:=
  h.mono fun _ w' ⟨he,hw⟩=>⟨he,⟨w',p.h.trans hw⟩,rfl⟩
theorem nk {P : Program} {f : FuncId} {args : Array Value} {w : World} {E : Ending} (h : Calls P f args w fun e w'=>e = E ∧ Gr w w') : Calls P f args w fun e w'=>e = E ∧ Below w.heap.size w w':=
  h.mono fun _ _ ⟨he,hg⟩=>⟨he,hg.below⟩
end
namespace arith
open Go.ChangeShapes Go.WideShapes Go.ChangeAt Go.RowKit
theorem rH (a b : Int) (w : World) :
    Calls Tryz.prog 170 #[.int .i64 a,.int .i64 b] w fun e w'=>e = .returned (.int .i64 (qE a b)) ∧ w = w':=by
  have hc : (if a < b then (-1 : Int) else if b < a then 1 else 0) = qE a b:=rfl;by_cases h1 : a < b
  · rw [if_pos h1] at hc;rw [← hc]; clear hc;go_enter Tryz.func170,Tryz.ntmps170
    go_wp2
    all_goals go_ret
    all_goals exact ⟨rfl,rfl⟩
  by_cases h2 : b < a
  · rw [if_neg h1,if_pos h2] at hc;rw [← hc]; clear hc;go_enter Tryz.func170,Tryz.ntmps170
    go_wp2
    all_goals go_ret
    all_goals exact ⟨rfl,rfl⟩
  · rw [if_neg h1,if_neg h2] at hc;rw [← hc]; clear hc;go_enter Tryz.func170,Tryz.ntmps170
    go_wp2
    all_goals go_ret
    all_goals exact ⟨rfl,rfl⟩
end arith
namespace dedup
open Go Go.RowKit
variable {α β : Type}
open Classical in
noncomputable def iy (κ : α → β) (l : List α) : Nat → List α
  | 0=>[]
  | j + 1=>if h : j < l.length then (if ∃ m,∃ hm : m + 1 = j,κ l[j] = κ (l[m]'(by omega)) then iy κ l j else iy κ l j ++ [l[j]]) else iy κ l j
theorem yM {κ : α → β} {l : List α} {m : Nat} (h : m + 1 < l.length) (he : κ l[m + 1] = κ l[m]) : iy κ l (m + 2) = iy κ l (m + 1):=by
  rw [iy,dif_pos h,if_pos ⟨m,rfl,he⟩]
theorem yN {κ : α → β} {l : List α} {m : Nat} (h : m + 1 < l.length) (he : κ l[m + 1] ≠ κ l[m]) : iy κ l (m + 2) = iy κ l (m + 1) ++ [l[m + 1]]:=by
  rw [iy,dif_pos h,if_neg];rintro ⟨m',hm,e⟩;obtain rfl : m' = m:=(by omega);exact he e
theorem Iu {κ : α → β} {l : List α} (h : 0 < l.length) : iy κ l 1 = [l[0]]:=by
  rw [iy,dif_pos h,if_neg]
  · rfl
  · rintro ⟨m',hm,_⟩;omega
theorem DY {κ : α → β} {l : List α} : ∀ {j : Nat},j ≤ l.length → (∀ m (h : m + 1 < l.length),m + 1 < j → κ l[m + 1] ≠ κ l[m]) → iy κ l j = l.take j
  | 0,_,_=>rfl
  | 1,h,_=>by
    rw [Iu (by omega)]
    match l,h with
    | x :: r,_=>rfl
  | j + 2,h,hn=>by
    rw [yN (by omega) (hn j (by omega) (by omega)),DY (j:=j + 1) (by omega) (fun m hm hj=>hn m hm (by omega))];rw [List.take_succ_eq_append_getElem (by omega)];simp
theorem NT (κ : α → β) (l : List α) : ∀ j,(iy κ l j).map κ = iy id (l.map κ) j
  | 0=>rfl
  | j + 1=>by
    have ih:=NT κ l j;rw [iy,iy];by_cases h : j < l.length
    · rw [dif_pos h,dif_pos (by simpa using h)];by_cases he : ∃ m,∃ hm : m + 1 = j,κ l[j] = κ (l[m]'(by omega))
      · rw [if_pos he,if_pos (by obtain ⟨m,hm,e⟩:=he; exact ⟨m,hm,by simpa using e⟩)];exact ih
      · rw [if_neg he,if_neg (by rintro ⟨m,hm,e⟩; exact he ⟨m,hm,by simpa using e⟩),List.map_append,ih];simp
    · rw [dif_neg h,dif_neg (by simpa using h)];exact ih
theorem NU (κ : α → β) (l : List α) : ∀ j,j ≤ l.length → (iy κ l j).Sublist (l.take j)
  | 0,_=>List.nil_sublist _
  | j + 1,h=>by
    have ih:=NU κ l j (by omega);rw [iy,dif_pos (by omega),List.take_succ_eq_append_getElem (by omega)]
    split
    · exact ih.trans (List.sublist_append_left _ _)
    · exact ih.append (List.Sublist.refl _)
theorem DZ (l : List α) : ∀ j,j ≤ l.length → ∀ y,y ∈ iy id l j ↔ y ∈ l.take j
  | 0,_,y=>by simp [iy]
  | 1,h,y=>by
    rw [Iu (by omega)]
    match l,h with
    | x :: r,_=>simp
  | j + 2,h,y=>by
    have ih:=DZ l (j + 1) (by omega) y;rw [List.take_succ_eq_append_getElem (by omega),List.mem_append,← ih];by_cases he : l[j + 1] = l[j]
    · rw [yM (κ:=id) (by omega) he,he];constructor
      · exact .inl
      · rintro (h1 | h1)
        · exact h1
        · obtain rfl : y = l[j]:=(by simpa using h1);refine (DZ l (j + 1) (by omega) _).2 ?_;rw [List.take_succ_eq_append_getElem (by omega)];exact List.mem_append.2 (.inr (List.mem_singleton.2 rfl))
    · rw [yN (κ:=id) (by omega) he,List.mem_append]
theorem NV {lt : α → α → Bool} (o : Ord lt) {l : List α} (hw : l.Pairwise fun a b=>lt b a = false) : ∀ j,j ≤ l.length → Asc lt (iy id l j)
  | 0,_=>List.Pairwise.nil
  | 1,h=>by rw [Iu (by omega)]; exact List.pairwise_singleton _ _
  | j + 2,h=>by
    have ih:=NV o hw (j + 1) (by omega);by_cases he : l[j + 1] = l[j]
    · rw [yM (κ:=id) (by omega) he]; exact ih
    · rw [yN (κ:=id) (by omega) he];refine List.pairwise_append.2 ⟨ih,List.pairwise_singleton _ _,fun a ha b hb=>?_⟩;obtain rfl : b = l[j + 1]:=(by simpa using hb);rw [DZ l (j + 1) (by omega)] at ha;obtain ⟨i,hi,rfl⟩:=List.getElem_of_mem ha;have hi1 : i < j + 1:=(by rw [List.length_take] at hi; omega);rw [List.getElem_take];rw [List.pairwise_iff_getElem] at hw
      have hlt : lt l[j] l[j + 1] = true:=by
        cases hc : lt l[j] l[j + 1] with
        | true=>rfl
        | false=>exact absurd (o.tot _ _ hc (hw j (j + 1) (by omega) (by omega) (by omega))).symm he
      by_cases e : i = j
      · subst e; exact hlt
      · have h3:=hw i j (by omega) (by omega) (by omega);cases hc : lt l[i] l[j] with
        | true=>exact o.tr _ _ _ hc hlt
        | false=>
          have:=o.tot _ _ hc h3;rw [this]; exact hlt
theorem vR {lt : α → α → Bool} (o : Ord lt) {l d : List α} (hp : List.Perm d l) (hw : d.Pairwise fun a b=>lt b a = false) : iy id d d.length = aU lt l:=
  EF o l _ (NV o hw _ (Nat.le_refl _)) fun y=>by rw [DZ d _ (Nat.le_refl _),List.take_length]; exact hp.mem_iff
structure kR (κ : α → β) (l : List α) (j kk : Nat) (dk : List α) : Prop where
  len : dk.length = l.length
  out : dk.take kk = iy κ l j
  KO : (iy κ l j).length = kk
  lt : kk < j
  le : j ≤ l.length
  high : ∀ i (h : i < dk.length) (h2 : i < l.length),j ≤ i + 1 → dk[i] = l[i]
theorem kR.start {κ : α → β} {l : List α} {m : Nat} (h : m + 1 < l.length) (hn : ∀ q (h : q + 1 < l.length),q + 1 < m + 1 → κ l[q + 1] ≠ κ l[q]) (he : κ l[m + 1] = κ l[m]) : kR κ l (m + 2) (m + 1) l:=by
  have e : iy κ l (m + 2) = l.take (m + 1):=(by rw [yM h he,DY (by omega) hn]);exact ⟨rfl,e.symm,by rw [e,List.length_take]; omega,by omega,by omega,fun i _ _ _=>rfl⟩
theorem kR.skip {κ : α → β} {l dk : List α} {m kk : Nat} (c : kR κ l (m + 1) kk dk) (h : m + 1 < l.length) (he : κ l[m + 1] = κ l[m]) : kR κ l (m + 2) kk dk:=by
  have e:=yM h he;exact ⟨c.len,by rw [e]; exact c.out,by rw [e]; exact c.KO,by have:=c.lt; omega,by omega,fun i h1 h2 h3=>c.high i h1 h2 (by omega)⟩
theorem kR.keep {κ : α → β} {l dk : List α} {m kk : Nat} (c : kR κ l (m + 1) kk dk) (h : m + 1 < l.length) (he : κ l[m + 1] ≠ κ l[m]) : kR κ l (m + 2) (kk + 1) (dk.set kk l[m + 1]):=by
  have e:=yN h he;have h1:=c.lt;have h2:=c.len;refine ⟨by simp [h2],?_,by rw [e,List.length_append,c.KO]; rfl,by omega,by omega,fun i i1 i2 i3=>?_⟩
  · rw [e,← c.out,List.take_succ_eq_append_getElem (by simp; omega),List.getElem_set_self]
    congr 1
    rw [List.take_set_of_le (by omega)]
  · rw [List.getElem_set_ne (by omega)];exact c.high i _ i2 (by omega)
theorem D5 {κ : α → β} {l : List α} (hn : ∀ q (h : q + 1 < l.length),κ l[q + 1] ≠ κ l[q]) : iy κ l l.length = l:=by
  rw [DY (Nat.le_refl _) (fun q h _=>hn q h),List.take_length]
end dedup
namespace lab
open Go.ChangeShapes Go.WideShapes Go.ChangeAt Go.RowKit
set_option maxRecDepth 100000 in
set_option maxHeartbeats 4000000 in
theorem Cw (s : ByteArray) (w : World) (hs : s.size ≤ 1048576) :
    Calls Tryz.prog 51 #[.string s] w fun e w'=>e = .returned (.bool (yes (nL s))) ∧ ∃ n,w' = w.drewN n:=by
  obtain ⟨R,hR⟩ : ∃ R,yes (nL s) = R:=⟨_,rfl⟩;rw [hR];have Hno : Hid (¬ nL s → R = false):=fun h=>by rw [← hR]; exact aP h
  have aG : Hid (nL s → R = true):=fun h=>by rw [← hR]; exact aQ h
  clear hR;have HL:=Lib.hid (fun x w=>xO x w);by_cases h0 : 1 ≤ s.size ∧ s.size ≤ 20
  case neg=>
    have Hf:=Lib.hid (Hno.out fun h=>h0 ⟨h.lo,h.hi⟩);have HI:=Lib.hid (arith.Jk (s.size : Int) 1 20 w (by omega));clear h0 Hno aG HL;go_enter Tryz.func51,Tryz.ntmps51;go_wp2_with fail;refine HI.out.mono ?_;rintro e w1 ⟨rfl,rfl⟩;go_wp2_with fail;go_ret;exact ⟨by rw [Hf.out]; rfl,0,rfl⟩
  have HI:=Lib.hid (arith.Dm (s.size : Int) 1 20 w (by omega) (by omega));have hp0 : 0 < s.size:=(by omega);have Dl:=at_eq s 0 hp0;obtain ⟨m,hm⟩ : ∃ m : Nat,m = s.size - 1:=⟨_,rfl⟩;have hml : m < s.size:=(by omega);have yZ : (s.size : Int) - 1 = (m : Int):=(by omega);have GX:=at_eq s m hml;by_cases f0 : at_ s 0 = 45
  · have Hf:=Lib.hid (Hno.out fun h=>h.fst f0);rw [f0] at Dl;clear f0 Hno aG hm h0 HL;go_enter Tryz.func51,Tryz.ntmps51;go_wp2_with fail;refine HI.out.mono ?_;rintro e w1 ⟨rfl,rfl⟩;go_wp2_with fail;go_ret;exact ⟨by rw [Hf.out]; rfl,0,rfl⟩
  have e0 : (at_ s 0 == 45) = false:=beq_eq_false_iff_ne.2 f0;by_cases fm : at_ s m = 45
  · have Hf:=Lib.hid (Hno.out fun h=>h.lst (by rw [← hm]; exact fm));rw [fm] at GX;generalize at_ s 0 = y0 at Dl e0;clear f0 fm Hno aG hm h0 HL;go_enter Tryz.func51,Tryz.ntmps51;go_wp2_with fail;refine HI.out.mono ?_;rintro e w1 ⟨rfl,rfl⟩;go_wp2_with fail;go_ret;exact ⟨by rw [Hf.out]; rfl,0,rfl⟩
  have em : (at_ s m == 45) = false:=beq_eq_false_iff_ne.2 fm;have qD:=Lib.hid (fun h3=>aG.out ⟨h0.1,h0.2,f0,by rw [← hm]; exact fm,h3⟩);generalize at_ s 0 = y0 at Dl e0;generalize at_ s m = ym at GX em;clear f0 fm hm h0 aG;go_enter Tryz.func51,Tryz.ntmps51;go_wp2_with fail;refine HI.out.mono ?_;rintro e w1 ⟨rfl,rfl⟩;go_wp2_with fail;clear HI Dl GX yZ hml e0 em
  go_loopw [3] (fun i wr=>∃ k : Nat,k ≤ s.size ∧ i = .int .i64 k ∧ Hid (∀ j,j < k → qp (at_ s j) = true) ∧ ∃ n,wr = w.drewN n) (fun i _=>s.size - (intOf i).toNat)
  case atStart=>exact ⟨0,Nat.zero_le _,rfl,fun j hj=>by omega,0,rfl⟩
  case round=>
    obtain ⟨k,hk,rfl,hall,n0,rfl⟩:=hrel;by_cases hlt : k < s.size
    · have Qb:=at_eq s k hlt;have Kk:=Lib.hid (HL.out (at_ s k));have Kl : Hid (qp (at_ s k) = false → R = false):=fun h=>Hno.out fun h2=>by rw [h2.all k hlt] at h; cases h
      have Ji : Hid (qp (at_ s k) = true → ∀ j,j < k + 1 → qp (at_ s j) = true):=fun h j hj=>by
        by_cases e : j = k
        · rw [e]; exact h
        · exact hall.out j (by omega)
      clear hall;generalize at_ s k = x at Qb Kk Kl Ji;cases hb : uG x with
      | false=>
        rw [hb] at Kk;by_cases hx : x = 45
        · have iT:=Lib.hid (Ji.out (by unfold qp; rw [hb,hx]; rfl));rw [hx] at Qb Kk;clear hb hx Kl Ji;go_wp2_with fail;refine (Kk.out _).mono ?_;rintro e w2 ⟨rfl,rfl⟩;go_wp2_with fail
          go_roundw
          case rel=>exact ⟨k + 1,by omega,by go_num,iT.out,_,rfl⟩
          case measure=>simp [intOf]; omega
        · have ex : (x == 45) = false:=beq_eq_false_iff_ne.2 hx;have ex2 : (x != 45) = true:=bne_iff_ne.2 hx;have Hf:=Lib.hid (Kl.out (by unfold qp; rw [hb,ex]; rfl));clear hb hx Kl Ji;go_wp2_with fail;refine (Kk.out _).mono ?_;rintro e w2 ⟨rfl,rfl⟩;go_wp2_with fail;go_ret;exact ⟨by rw [Hf.out]; rfl,_,rfl⟩
      | true=>
        rw [hb] at Kk;by_cases h1 : 65 ≤ x
        · by_cases h2 : x ≤ 90
          · have hx : x ≠ 45:=(by omega);have ex : (x == 45) = false:=beq_eq_false_iff_ne.2 hx;have ex2 : (x != 45) = true:=bne_iff_ne.2 hx;have Hf:=Lib.hid (Kl.out (by unfold qp; rw [hb,ex,decide_eq_true h1,decide_eq_true h2]; rfl));clear hb hx Kl Ji;go_wp2_with fail;refine (Kk.out _).mono ?_;rintro e w2 ⟨rfl,rfl⟩;go_wp2_with fail;go_ret;exact ⟨by rw [Hf.out]; rfl,_,rfl⟩
          · have iT:=Lib.hid (Ji.out (by unfold qp; rw [hb,decide_eq_false h2,Bool.and_false]; rfl));clear hb Kl Ji;go_wp2_with fail;refine (Kk.out _).mono ?_;rintro e w2 ⟨rfl,rfl⟩;go_wp2_with fail
            go_roundw
            case rel=>exact ⟨k + 1,by omega,by go_num,iT.out,_,rfl⟩
            case measure=>simp [intOf]; omega
        · have iT:=Lib.hid (Ji.out (by unfold qp; rw [hb,decide_eq_false h1]; rfl));clear hb Kl Ji;go_wp2_with fail;refine (Kk.out _).mono ?_;rintro e w2 ⟨rfl,rfl⟩;go_wp2_with fail
          go_roundw
          case rel=>exact ⟨k + 1,by omega,by go_num,iT.out,_,rfl⟩
          case measure=>simp [intOf]; omega
    · obtain rfl : k = s.size:=(by omega);have Hf:=Lib.hid (qD.out hall.out);clear hall;go_wp2_with fail;go_ret;exact ⟨by rw [Hf.out]; rfl,_,rfl⟩
end lab
namespace arith
open Go.ChangeShapes Go.WideShapes Go.ChangeAt Go.RowKit
theorem NW (a b : Int) (w : World) (ha : -9223372036854775808 ≤ a ∧ a ≤ 9223372036854775807) (hb : -9223372036854775808 ≤ b ∧ b ≤ 9223372036854775807) :
    Calls Tryz.prog 185 #[.int .i64 a,.int .i64 b] w fun e w'=>e = .returned (two (y8 a b)) ∧ w = w':=by
  by_cases h1 : a < 0
  · rw [GY (by omega),mR];go_enter Tryz.func185,Tryz.ntmps185
    go_wp2
    go_ret2
    exact ⟨rfl,rfl⟩
  by_cases h2 : b < 0
  · rw [GY (by omega),mR];go_enter Tryz.func185,Tryz.ntmps185
    go_wp2
    go_ret2
    exact ⟨rfl,rfl⟩
  by_cases h3 : 9223372036854775807 - b < a
  · rw [GY (by omega),mR];go_enter Tryz.func185,Tryz.ntmps185
    go_wp2
    go_ret2
    exact ⟨rfl,rfl⟩
  · rw [Qd (by omega) (by omega) (by omega),qZ];go_enter Tryz.func185,Tryz.ntmps185
    go_wp2
    go_ret2
    exact ⟨rfl,rfl⟩
end arith
namespace arith
open Go.ChangeShapes Go.WideShapes Go.ChangeAt Go.RowKit
theorem WT (A : Option Addr) (n c : Nat) (l : List Int) (w : World) (hn : n ≤ maxLen) (hln : l.length = n) (h : Rd w A n (iP l)) (hw : ∀ x ∈ l,(Lit.int .i64 x).wf = true) :
    Calls Tryz.prog 115 #[.slice A n c] w fun e w'=>e = .returned (two (lY l)) ∧ w = w':=by
  unfold maxLen at hn;have H:=Lib.hid h;have Hl:=Lib.hid hln;have Hw:=Lib.hid hw;have HA:=Lib.hid (fun a x ha hx=>NW a x w ha hx);clear h hln hw;go_enter Tryz.func115,Tryz.ntmps115;go_wp2_with fail;go_loop [4,10] (fun x i=>∃ (k : Nat) (y : Int),k ≤ n ∧ i = .int .i64 k ∧ x = .int .i64 y ∧ Hid (lY (l.take k) = some y)) (fun _ i=>n - (intOf i).toNat)
  case atStart=>exact ⟨0,0,Nat.zero_le _,rfl,rfl,EG l⟩
  case round=>
    obtain ⟨k,y,hk,rfl,rfl,hp⟩:=hrel;by_cases hlt : k < n
    · have hkl : k < l.length:=(by have:=Hl.out; omega);obtain ⟨g,o,rfl,_,hc⟩:=H.out.2 (by omega);have d : w.cell? ⟨g,o + k,none⟩ = some (.int .i64 (l.getD k 0)):=hc k hlt _ (uF l k hkl);clear hc;have hx:=Mf (Hw.out (l.getD k 0) (by rw [List.getD_eq_getElem?_getD,List.getElem?_eq_getElem hkl]; exact List.getElem_mem hkl));have hs:=Mv hkl hp.out;have hy:=Mx k (by omega) hp.out;generalize l.getD k 0 = x at d hx hs;cases ha : y8 y x with
      | none=>
        have HD:=Lib.hid (Mw (by rw [hs,ha]));have H1:=Lib.hid (HA.out y x (by omega) hx);rw [ha,mR] at H1;clear ha hs hkl;go_wp2_with (go_at_call 185; refine H1.out.mono ?_; rintro e w1 ⟨rfl,rfl⟩)
        go_ret2
        exact ⟨by rw [HD.out]; rfl,rfl⟩
      | some z=>
        have HD : Hid (lY (l.take (k + 1)) = some z):=(by unfold Hid; rw [hs,ha]);have H1:=Lib.hid (HA.out y x (by omega) hx);rw [ha,qZ] at H1;clear ha hs hkl;go_wp2_with (go_at_call 185; refine H1.out.mono ?_; rintro e w1 ⟨rfl,rfl⟩);go_round
        case rel=>exact ⟨k + 1,z,by omega,by go_num,rfl,HD⟩
        case measure=>simp [intOf]; omega
    · obtain rfl : k = n:=(by omega);have hp2:=hp.out;rw [List.take_of_length_le (by have:=Hl.out; omega)] at hp2;have Hp:=Lib.hid hp2;clear hp2;go_wp2_with fail
      go_ret2
      exact ⟨by rw [Hp.out]; rfl,rfl⟩
theorem Cx (A : Option Addr) (n c : Nat) (l : List Int) (w : World) (hn : n ≤ maxLen) (hln : l.length = n) (h : Rd w A n (iP l)) (hw : ∀ x ∈ l,(Lit.int .i64 x).wf = true) :
    Calls Tryz.prog 50 #[.slice A n c] w fun e w'=>e = .returned (two (lY l)) ∧ w = w':=by
  have HS:=Lib.hid (WT A n c l w hn hln h hw);unfold two at HS;generalize lY l = o at HS ⊢;clear h hln hw;unfold two;go_enter Tryz.func50,Tryz.ntmps50;go_wp2_with fail;refine HS.out.mono ?_;rintro e w1 ⟨rfl,rfl⟩;go_wp2_with fail
  go_ret2
  exact ⟨rfl,rfl⟩
end arith
namespace rune
open Go Go.RowKit
def valid (n : Nat) : Prop:=n < 55296 ∨ (57344 ≤ n ∧ n ≤ 1114111)
instance (n : Nat) : Decidable (valid n):=by unfold valid; exact inferInstance
def enc (n : Nat) : List Nat:=
  if n < 128 then [n]
  else if n < 2048 then [192 + n / 64,128 + n % 64]
  else if n < 65536 then [224 + n / 4096,128 + n / 64 % 64,128 + n % 64]
  else [240 + n / 262144,128 + n / 4096 % 64,128 + n / 64 % 64,128 + n % 64]
def Is (s : ByteArray) (p n : Nat) : Prop:=valid n ∧ p + (enc n).length ≤ s.size ∧ ∀ i,i < (enc n).length → at_ s (p + i) = (((enc n).getD i 0 : Nat) : Int)
def aeN (b0 b1 b2 b3 : Nat) (c1 c2 c3 : Bool) : Nat × Nat:=
  if b0 < 0x80 then (b0,1)
  else if b0 / 32 == 6 && c1 then
    if b0 % 32 * 64 + b1 % 64 ≥ 0x80 then (b0 % 32 * 64 + b1 % 64,2) else (65533,1)
  else if b0 / 16 == 14 && c1 && c2 then
    if b0 % 16 * 4096 + b1 % 64 * 64 + b2 % 64 ≥ 0x800 && Utf8.valid ((b0 % 16 * 4096 + b1 % 64 * 64 + b2 % 64 : Nat) : Int) then (b0 % 16 * 4096 + b1 % 64 * 64 + b2 % 64,3) else (65533,1)
  else if b0 / 8 == 30 && c1 && c2 && c3 then
    if b0 % 8 * 262144 + b1 % 64 * 4096 + b2 % 64 * 64 + b3 % 64 ≥ 0x10000 && Utf8.valid ((b0 % 8 * 262144 + b1 % 64 * 4096 + b2 % 64 * 64 + b3 % 64 : Nat) : Int) then (b0 % 8 * 262144 + b1 % 64 * 4096 + b2 % 64 * 64 + b3 % 64,4) else (65533,1)
  else (65533,1)
def okR (n : Int) : Bool:=(decide (0 ≤ n) && decide (n ≤ 1114111)) && !(decide (55296 ≤ n) && decide (n ≤ 57343))
def abD (n : Nat) : List UInt8:=(enc n).map UInt8.ofNat
def YI (n : Int) : ByteArray:=if okR n = true then ⟨(abD n.toNat).toArray⟩ else ⟨#[]⟩
open Classical in
noncomputable def XG (s : ByteArray) (a : Int) : Int × Int:=if h : 0 ≤ a ∧ ∃ n,Is s a.toNat n then ((h.2.choose : Int),a + ((enc h.2.choose).length : Int)) else (0,-1)
noncomputable def cut (s : ByteArray) : Nat → Nat → Option (List Int)
  | 0,p=>if p < s.size then none else some []
  | b + 1,p=>if p < s.size then (if (XG s (p : Int)).2 < 0 then none else (cut s b (XG s (p : Int)).2.toNat).map ((XG s (p : Int)).1 :: ·)) else some []
noncomputable def NY (s : ByteArray) : Option (List Int):=cut s s.size 0
def joinL (l : List Int) : List UInt8:=l.flatMap fun n=>(YI n).data.toList
def adf (l : List Int) : ByteArray:=⟨(joinL l).toArray⟩
end rune
end Go.Proofs.YtcfbkfmkjggcdaaGreatDoor
