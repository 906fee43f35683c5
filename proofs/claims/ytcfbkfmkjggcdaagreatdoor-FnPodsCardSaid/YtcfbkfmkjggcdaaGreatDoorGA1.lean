/- Merged: WdS QuietB CutM CutB DedupM ArithM CmpW InS DrawNam ByteInfo DrawLongA DrawLongC. -/
import Derived.Test.YtcfbkfmkjggcdaaGreatDoorGA0
import Derived.Test.YtcfbkfmkjggcdaaGreatDoorRows
import Derived.ProofKit
import Derived.OpenShut
import Derived.BigQuiet
import Derived.Deep.QuietTactic
set_option linter.unusedVariables false
namespace Go.Proofs.YtcfbkfmkjggcdaaGreatDoor
namespace lab
open Go.ChangeShapes Go.WideShapes Go.ChangeAt Go.RowKit
theorem xO (x : Int) (w : World) : Calls Tryz.prog 116 #[.int .u8 x] w fun e w'=>e = .returned (.bool (uG x)) ∧ w = w':=by
  by_cases a1 : 97 ≤ x
  · have b1 : 65 ≤ x:=(by omega);have c1 : 48 ≤ x:=(by omega);by_cases a2 : x ≤ 122
    · rw [show uG x = true by simp [uG,a1,a2]];go_enter Tryz.func116,Tryz.ntmps116;go_wp2_with fail;go_ret;exact ⟨rfl,rfl⟩
    · have b2 : ¬ x ≤ 90:=(by omega);have c2 : ¬ x ≤ 57:=(by omega);rw [show uG x = false by simp [uG,a2,b2,c2]];go_enter Tryz.func116,Tryz.ntmps116;go_wp2_with fail;go_ret;exact ⟨rfl,rfl⟩
  by_cases b1 : 65 ≤ x
  · have c1 : 48 ≤ x:=(by omega);by_cases b2 : x ≤ 90
    · rw [show uG x = true by simp [uG,b1,b2]];go_enter Tryz.func116,Tryz.ntmps116;go_wp2_with fail;go_ret;exact ⟨rfl,rfl⟩
    · have c2 : ¬ x ≤ 57:=(by omega);rw [show uG x = false by simp [uG,a1,b2,c2]];go_enter Tryz.func116,Tryz.ntmps116;go_wp2_with fail;go_ret;exact ⟨rfl,rfl⟩
  by_cases c1 : 48 ≤ x
  · by_cases c2 : x ≤ 57
    · rw [show uG x = true by simp [uG,c1,c2]];go_enter Tryz.func116,Tryz.ntmps116;go_wp2_with fail;go_ret;exact ⟨rfl,rfl⟩
    · rw [show uG x = false by simp [uG,a1,b1,c2]];go_enter Tryz.func116,Tryz.ntmps116;go_wp2_with fail;go_ret;exact ⟨rfl,rfl⟩
  · rw [show uG x = false by simp [uG,a1,b1,c1]];go_enter Tryz.func116,Tryz.ntmps116;go_wp2_with fail;go_ret;exact ⟨rfl,rfl⟩
set_option maxRecDepth 100000 in
set_option maxHeartbeats 4000000 in
theorem BJ (s o : ByteArray) (w : World) (hs : s.size ≤ 1048576) (ho : o.size ≤ 16) :
    Calls Tryz.prog 186 #[.string s,.string o] w fun e w'=>e = .returned (.bool (yes (oL o s))) ∧ ∃ n,w' = w.drewN n:=by
  obtain ⟨R,hR⟩ : ∃ R,yes (oL o s) = R:=⟨_,rfl⟩;rw [hR];have HR:=Lib.hid hR;clear hR;have HL:=Lib.hid (fun x w=>xO x w);by_cases h0 : s.size = 0
  · have e0 : ((s.size : Int) == 0) = true:=(by rw [h0]; rfl);have Hf : Hid (R = false):=(by unfold Hid; rw [← HR.out]; exact aP fun h=>by have:=h.lo; omega);clear h0 HL;go_enter Tryz.func186,Tryz.ntmps186;go_wp2_with fail;go_ret;exact ⟨by rw [Hf.out]; rfl,0,rfl⟩
  have e0 : ((s.size : Int) == 0) = false:=(by rw [beq_eq_false_iff_ne]; omega);have hp0 : 0 < s.size:=(by omega);have Dl:=at_eq s 0 hp0;obtain ⟨m,hm⟩ : ∃ m : Nat,m = s.size - 1:=⟨_,rfl⟩;have hml : m < s.size:=(by omega);have yZ : (s.size : Int) - 1 = (m : Int):=(by omega);have GX:=at_eq s m hml;have Hno : Hid (¬ oL o s → R = false):=fun h=>by rw [← HR.out]; exact aP h
  have aG : Hid (oL o s → R = true):=fun h=>by rw [← HR.out]; exact aQ h
  have H0:=Lib.hid (HL.out (at_ s 0));have Hm:=Lib.hid (HL.out (at_ s m));by_cases f0 : uG (at_ s 0) = true
  case neg=>
    have Hf:=Lib.hid (Hno.out fun h=>f0 h.fst);rw [Bool.not_eq_true] at f0;rw [f0] at H0;generalize at_ s 0 = y0 at Dl H0;clear f0 Hno aG hm h0;go_enter Tryz.func186,Tryz.ntmps186;go_wp2_with fail;refine (H0.out _).mono ?_;rintro e w1 ⟨rfl,rfl⟩;go_wp2_with fail;go_ret;exact ⟨by rw [Hf.out]; rfl,0,rfl⟩
  by_cases fm : uG (at_ s m) = true
  case neg=>
    have Hf:=Lib.hid (Hno.out fun h=>fm (by rw [hm]; exact h.lst));rw [Bool.not_eq_true] at fm;rw [fm] at Hm;rw [f0] at H0;generalize at_ s 0 = y0 at Dl H0;generalize at_ s m = ym at GX Hm;clear f0 fm Hno aG hm h0;go_enter Tryz.func186,Tryz.ntmps186;go_wp2_with fail;refine (H0.out _).mono ?_;rintro e w1 ⟨rfl,rfl⟩;go_wp2_with fail;refine (Hm.out _).mono ?_;rintro e w1 ⟨rfl,rfl⟩;go_wp2_with fail;go_ret;exact ⟨by rw [Hf.out]; rfl,0,rfl⟩
  have qD:=Lib.hid (fun h3=>aG.out ⟨by omega,f0,by rw [← hm]; exact fm,h3⟩);rw [f0] at H0;rw [fm] at Hm;generalize at_ s 0 = y0 at Dl H0;generalize at_ s m = ym at GX Hm;clear f0 fm hm h0 aG;go_enter Tryz.func186,Tryz.ntmps186;go_wp2_with fail;refine (H0.out _).mono ?_;rintro e w1 ⟨rfl,rfl⟩;go_wp2_with fail;refine (Hm.out _).mono ?_;rintro e w1 ⟨rfl,rfl⟩;clear H0 Hm Dl GX yZ hml e0;go_wp2_with fail
  go_loopw [5] (fun i wr=>∃ k : Nat,k ≤ s.size ∧ i = .int .i64 k ∧ Hid (∀ j,j < k → tT o (at_ s j) = true) ∧ ∃ n,wr = w.drewN n) (fun i _=>s.size - (intOf i).toNat)
  case atStart=>exact ⟨0,Nat.zero_le _,rfl,fun j hj=>by omega,0,rfl⟩
  case round=>
    obtain ⟨k,hk,rfl,hall,n0,rfl⟩:=hrel;by_cases hlt : k < s.size
    · have Qb:=at_eq s k hlt;have Kk:=Lib.hid (HL.out (at_ s k));have Kl : Hid (tT o (at_ s k) = false → R = false):=fun h=>Hno.out fun h2=>by rw [h2.all k hlt] at h; cases h
      have Ji : Hid (tT o (at_ s k) = true → ∀ j,j < k + 1 → tT o (at_ s j) = true):=fun h j hj=>by
        by_cases e : j = k
        · rw [e]; exact h
        · exact hall.out j (by omega)
      clear hall;generalize at_ s k = x at Qb Kk Kl Ji;go_wp2_with fail;refine (Kk.out _).mono ?_;rintro e w2 ⟨rfl,rfl⟩;clear Kk;generalize hb0 : uG x = b0;go_wp2_with fail
      go_loopw [6,7] (fun b j wr=>∃ q : Nat,q ≤ o.size ∧ j = .int .i64 q ∧ b = .bool (acc o x q) ∧ ∃ n,wr = w.drewN n) (fun _ j _=>o.size - (intOf j).toNat)
      case atStart=>exact ⟨0,Nat.zero_le _,rfl,by rw [Mj,hb0],_,rfl⟩
      case round=>
        clear hb0;obtain ⟨q,hq,rfl,rfl,n1,rfl⟩:=hrel;by_cases hlq : q < o.size
        · have XV:=at_eq o q hlq;have hsucc:=Mk o x q;cases ha : acc o x q with
          | true=>
            have Hs : Hid (acc o x (q + 1) = true):=(by unfold Hid; rw [hsucc,ha]; rfl);clear hsucc ha XV;go_wp2_with fail
            go_quiet (fail)
            go_wp2_with fail
            go_roundw
            case rel=>exact ⟨q + 1,by omega,by go_num,by rw [Hs.out],_,rfl⟩
            case measure=>simp [intOf]; omega
          | false=>
            have hs1 : acc o x (q + 1) = (x == at_ o q):=(by rw [hsucc,ha]; rfl);generalize at_ o q = z at XV hs1;cases hz : (x == z) with
            | true=>
              have Hs : Hid (acc o x (q + 1) = true):=(by unfold Hid; rw [hs1,hz]);clear hsucc ha hs1;go_wp2_with fail
              go_quiet (fail)
              go_wp2_with fail
              go_roundw
              case rel=>exact ⟨q + 1,by omega,by go_num,by rw [Hs.out],_,rfl⟩
              case measure=>simp [intOf]; omega
            | false=>
              have Hs : Hid (acc o x (q + 1) = false):=(by unfold Hid; rw [hs1,hz]);clear hsucc ha hs1;go_wp2_with fail
              go_quiet (fail)
              go_wp2_with fail
              go_roundw
              case rel=>exact ⟨q + 1,by omega,by go_num,by rw [Hs.out],_,rfl⟩
              case measure=>simp [intOf]; omega
        · obtain rfl : q = o.size:=(by omega);cases ha : acc o x o.size with
          | true=>
            have iT:=Lib.hid (Ji.out ha);clear ha Kl Ji;go_wp2_with fail
            go_roundw
            case rel=>exact ⟨k + 1,by omega,by go_num,iT.out,_,rfl⟩
            case measure=>simp [intOf]; omega
          | false=>
            have Hf:=Lib.hid (Kl.out ha);clear ha Kl Ji;go_wp2_with fail;go_ret;exact ⟨by rw [Hf.out]; rfl,_,rfl⟩
    · obtain rfl : k = s.size:=(by omega);have Hf:=Lib.hid (qD.out hall.out);clear hall;go_wp2_with fail;go_ret;exact ⟨by rw [Hf.out]; rfl,_,rfl⟩
theorem vC (s : ByteArray) (w : World) (hs : s.size ≤ 1048576) :
    Calls Tryz.prog 117 #[.string s] w fun e w'=>e = .returned (.bool (yes (gP s))) ∧ ∃ n,w' = w.drewN n:=by
  by_cases h : s.size ≤ 30
  · have e : yes (gP s) = yes (oL Di s):=by
      by_cases h2 : oL Di s
      · rw [aQ h2,aQ ⟨h,h2⟩]
      · rw [aP h2,aP fun h3=>h2 h3.2]
    rw [e];have HW:=Lib.hid (BJ s Di w hs (by decide));generalize yes (oL Di s) = R at HW;unfold Di at HW;clear e hs;go_enter Tryz.func117,Tryz.ntmps117;go_wp2_with fail;refine HW.out.mono ?_;rintro e w1 ⟨rfl,n1,rfl⟩;clear HW;go_wp2_with fail;go_ret;exact ⟨rfl,_,rfl⟩
  · rw [aP (fun h2 : gP s=>h h2.1)];clear hs;go_enter Tryz.func117,Tryz.ntmps117;go_wp2_with fail;go_ret;exact ⟨rfl,0,rfl⟩
theorem vD (s : ByteArray) (w : World) (hs : s.size ≤ 1048576) :
    Calls Tryz.prog 118 #[.string s] w fun e w'=>e = .returned (.bool (yes (gG s))) ∧ ∃ n,w' = w.drewN n:=by
  by_cases h0 : s.size = 0
  · rw [aQ (show gG s from .inl h0)];have e0:=jS h0;have e1 : (s.toList == []) = true:=(by rw [show s.toList = [] from List.isEmpty_iff.1 e0]; rfl);clear hs h0;go_enter Tryz.func118,Tryz.ntmps118;go_wp2_with fail;go_ret;exact ⟨rfl,0,rfl⟩
  have e0:=lK (show 0 < s.size by omega)
  have e1 : (s.toList == []) = false:=by
    cases hl : s.toList with
    | nil=>rw [hl] at e0; cases e0
    | cons a r=>rfl
  by_cases h : s.size ≤ 20
  · have e : yes (gG s) = yes (oL Dj s):=by
      by_cases h2 : oL Dj s
      · rw [aQ h2,aQ (show gG s from .inr ⟨h,h2⟩)]
      · rw [aP h2,aP fun h3 : gG s=>h3.elim h0 fun h4=>h2 h4.2]
    rw [e];have HW:=Lib.hid (BJ s Dj w hs (by decide));generalize yes (oL Dj s) = R at HW;unfold Dj at HW;clear e hs h0;go_enter Tryz.func118,Tryz.ntmps118;go_wp2_with fail;refine HW.out.mono ?_;rintro e w1 ⟨rfl,n1,rfl⟩;clear HW;go_wp2_with fail;go_ret;exact ⟨rfl,_,rfl⟩
  · rw [aP (fun h2 : gG s=>h2.elim h0 fun h4=>h h4.1)];clear hs h0;go_enter Tryz.func118,Tryz.ntmps118;go_wp2_with fail;go_ret;exact ⟨rfl,0,rfl⟩
end lab
section
open Go Go.RowKit
structure ak (w : World) where
  v : World
  h : Below w.heap.size w v
def ak.start (w : World) : ak w:=⟨w.drewN 1,below_drewN (Below.refl _ _) 1⟩
instance (w : World) : Inhabited (ak w):=⟨ak.start w⟩
theorem EA {P : Program} {f : FuncId} {args : Array Value} {w : World} {E : Ending} (h : Calls P f args w fun e w'=>e = E ∧ ∃ n,w' = w.drewN n) : Calls P f args w fun e w'=>e = E ∧ Below w.heap.size w w':=
  h.mono fun _ _ ⟨he,n,hn⟩=>⟨he,by rw [hn]; exact below_drewN (Below.refl _ _) n⟩
theorem wp_region_quiet_below {P : Program} {id : Nat} {Q : Exit → Act → World → Prop} {a : Act} {w : World} {l : List Oper} (hm : P.follows .mixedOrders = true) (hB : Region.lexB .any l.toArray = true)
    (h : wpQuiet P l.toArray (fun w'=>∃ p : ak w,w' = p.v) (fun a'=>∀ w',(∃ p : ak w,w' = p.v) → Q .normal a' w') l a) : (Code.region id l.toArray true).wp P Q a w:=
  wp_region_quiet (C:=fun w'=>∃ p : ak w,w' = p.v) hm hB ⟨ak.start w,rfl⟩ (by simpa using h)
theorem ak.cell {w : World} {a : Addr} {v : Value} (hb : a.block < w.heap.size) (h : w.cell? a = some v) (p : ak w) : p.v.cell? a = some v:=
  (World.cell?_of_block (p.h.block _ hb)).trans h
theorem Calls.aF {P : Program} {f : FuncId} {args : Array Value} {w : World} {p : ak w} {v : Value}
    (h : Calls P f args p.v fun e w'=>e = .returned v ∧ Below p.v.heap.size p.v w') : Calls P f args p.v fun e w''=>e = .returned v ∧ ∃ q : ak w,w'' = q.v:=
  h.mono fun _ w' ⟨he,hw⟩=>⟨he,⟨w',p.h.trans (hw.mono p.h.size)⟩,rfl⟩
end
namespace cut
open Go Go.RowKit
def cs (s : ByteArray) (c : Int) : Nat → Nat × List ByteArray
  | 0=>(0,[])
  | k + 1=>if k = s.size ∨ at_ s k = c then (k + 1,(cs s c k).2 ++ [s.extract (cs s c k).1 k]) else cs s c k
def XW (s : ByteArray) (c : Int) : List ByteArray:=(cs s c (s.size + 1)).2
def aed (e0 : TypeId) (w : World) (l : List ByteArray) (e : Ending) (w' : World) : Prop:=∃ v,e = .returned v ∧ w'.ownsRow w.heap.size e0 1 v l.length (aT l) ∧ Below w.heap.size w w'
end cut
namespace cut
open Go Go.RowKit
def Mt (c : Int) : List UInt8 → List (List UInt8)
  | []=>[[]]
  | b :: r=>if (b.toNat : Int) = c then [] :: Mt c r else match Mt c r with
    | []=>[[b]]
    | h :: t=>(b :: h) :: t
def mk (x : List UInt8) : ByteArray:=⟨x.toArray⟩
end cut
namespace dedup
open Go Go.RowKit
variable {α : Type}
def iJ (lt : α → α → Bool) (x : α) : List α → List α
  | []=>[x]
  | y :: r=>if lt y x = true then y :: iJ lt x r else if lt x y = true then x :: y :: r else y :: r
def aU (lt : α → α → Bool) (l : List α) : List α:=l.foldl (fun acc x=>iJ lt x acc) []
theorem pQ (lt : α → α → Bool) (l : List α) (x : α) : aU lt (l ++ [x]) = iJ lt x (aU lt l):=by
  unfold aU;rw [List.foldl_append];rfl
theorem oN {lt : α → α → Bool} {x : α} : ∀ {S : List α} {k : Nat} (hk : k < S.length),(∀ q (h : q < k),lt (S[q]'(by omega)) x = true) → lt S[k] x = false → lt x S[k] = false → iJ lt x S = S
  | [],_,hk,_,_,_=>by simp at hk
  | y :: r,0,_,_,h2,h3=>by
    simp only [List.getElem_cons_zero] at h2 h3;rw [iJ,if_neg (by rw [h2]; simp),if_neg (by rw [h3]; simp)]
  | y :: r,k + 1,hk,h1,h2,h3=>by
    have h0:=h1 0 (by omega);simp only [List.getElem_cons_zero] at h0;rw [iJ,if_pos h0,oN (S:=r) (k:=k) (by simpa using hk) (fun q h=>by have:=h1 (q + 1) (by omega); simpa using this) (by simpa using h2) (by simpa using h3)]
theorem kr {lt : α → α → Bool} {x : α} : ∀ {S : List α} {k : Nat} (hk : k ≤ S.length),(∀ q (h : q < k),lt (S[q]'(by omega)) x = true) → (∀ h : k < S.length,lt S[k] x = false ∧ lt x S[k] = true) → iJ lt x S = S.take k ++ x :: S.drop k
  | [],k,hk,_,_=>by
    have : k = 0:=(by simpa using hk);subst this;rfl
  | y :: r,0,_,_,h2=>by
    obtain ⟨h2,h3⟩:=h2 (by simp);simp only [List.getElem_cons_zero] at h2 h3;rw [iJ,if_neg (by rw [h2]; simp),if_pos h3];rfl
  | y :: r,k + 1,hk,h1,h2=>by
    have h0:=h1 0 (by omega);simp only [List.getElem_cons_zero] at h0;rw [iJ,if_pos h0,kr (S:=r) (k:=k) (by simpa using hk) (fun q h=>by have:=h1 (q + 1) (by omega); simpa using this) (fun h=>by have:=h2 (by simpa using h); simpa using this)];rfl
theorem xP (lt : α → α → Bool) (x : α) : ∀ S : List α,(iJ lt x S).length ≤ S.length + 1
  | []=>Nat.le_refl _
  | y :: r=>by
    have ih:=xP lt x r;rw [iJ]
    split
    · simp only [List.length_cons]; omega
    split <;> simp
theorem y7 (lt : α → α → Bool) (x : α) : ∀ (S : List α) (y : α),y ∈ iJ lt x S → y = x ∨ y ∈ S
  | [],y,h=>by left; simpa [iJ] using h
  | z :: r,y,h=>by
    rw [iJ] at h
    split at h
    · rcases List.mem_cons.1 h with rfl | h
      · exact .inr List.mem_cons_self
      · exact (y7 lt x r y h).imp id (List.mem_cons_of_mem _)
    split at h
    · rcases List.mem_cons.1 h with rfl | h
      · exact .inl rfl
      · exact .inr h
    · exact .inr h
theorem fI (lt : α → α → Bool) (l : List α) : (aU lt l).length ≤ l.length:=by
  suffices h : ∀ (l acc : List α),(l.foldl (fun acc x=>iJ lt x acc) acc).length ≤ acc.length + l.length by simpa [aU] using h l []
  intro l
  induction l with
  | nil=>intro acc; simp
  | cons x l ih=>
    intro acc;have h1:=ih (iJ lt x acc);have h2:=xP lt x acc;simp only [List.foldl_cons,List.length_cons];omega
theorem gu (lt : α → α → Bool) (l : List α) : ∀ y ∈ aU lt l,y ∈ l:=by
  suffices h : ∀ (l acc : List α) (y : α),y ∈ l.foldl (fun acc x=>iJ lt x acc) acc → y ∈ acc ∨ y ∈ l from fun y hy=>by simpa using h l [] y hy
  intro l
  induction l with
  | nil=>intro acc y h; exact .inl h
  | cons x l ih=>
    intro acc y h;rcases ih _ _ h with h | h
    · rcases y7 lt x acc y h with rfl | h
      · exact .inr List.mem_cons_self
      · exact .inl h
    · exact .inr (List.mem_cons_of_mem _ h)
structure Ord (lt : α → α → Bool) : Prop where
  Qc : ∀ a,lt a a = false
  tot : ∀ a b,lt a b = false → lt b a = false → a = b
  tr : ∀ a b c,lt a b = true → lt b c = true → lt a c = true
def Asc (lt : α → α → Bool) (l : List α) : Prop:=l.Pairwise fun a b=>lt a b = true
theorem EB {lt : α → α → Bool} (o : Ord lt) (x : α) : ∀ S : List α,x ∈ iJ lt x S ∧ ∀ y ∈ S,y ∈ iJ lt x S
  | []=>⟨by simp [iJ],fun y h=>by cases h⟩
  | z :: r=>by
    obtain ⟨h1,h2⟩:=EB o x r;rw [iJ]
    split
    · refine ⟨List.mem_cons_of_mem _ h1,fun y hy=>?_⟩;rcases List.mem_cons.1 hy with rfl | hy
      · exact List.mem_cons_self
      · exact List.mem_cons_of_mem _ (h2 y hy)
    split
    · exact ⟨List.mem_cons_self,fun y hy=>List.mem_cons_of_mem _ hy⟩
    · rename_i a b
      have : z = x:=o.tot _ _ (by simpa using a) (by simpa using b);subst this;exact ⟨List.mem_cons_self,fun y hy=>hy⟩
theorem EC {lt : α → α → Bool} (o : Ord lt) (x : α) : ∀ S : List α,Asc lt S → Asc lt (iJ lt x S)
  | [],_=>by simp [iJ,Asc]
  | z :: r,h=>by
    obtain ⟨h1,h2⟩:=List.pairwise_cons.1 h;rw [iJ]
    split
    · rename_i a
      refine List.pairwise_cons.2 ⟨fun y hy=>?_,EC o x r h2⟩;rcases y7 lt x r y hy with rfl | hy
      · exact a
      · exact h1 y hy
    split
    · rename_i a b
      refine List.pairwise_cons.2 ⟨fun y hy=>?_,h⟩;rcases List.mem_cons.1 hy with rfl | hy
      · exact b
      · exact o.tr _ _ _ b (h1 y hy)
    · exact h
theorem BK {lt : α → α → Bool} (o : Ord lt) (l : List α) : Asc lt (aU lt l) ∧ ∀ y,y ∈ aU lt l ↔ y ∈ l:=by
  refine ⟨?_,fun y=>⟨gu lt l y,?_⟩⟩
  · suffices h : ∀ (l acc : List α),Asc lt acc → Asc lt (l.foldl (fun acc x=>iJ lt x acc) acc) from h l [] List.Pairwise.nil
    intro l
    induction l with
    | nil=>intro acc h; exact h
    | cons x l ih=>intro acc h; exact ih _ (EC o x acc h)
  · suffices h : ∀ (l acc : List α) (y : α),y ∈ acc ∨ y ∈ l → y ∈ l.foldl (fun acc x=>iJ lt x acc) acc from fun hy=>h l [] y (.inr hy)
    intro l
    induction l with
    | nil=>intro acc y h; exact h.elim id (fun h=>by cases h)
    | cons x l ih=>
      intro acc y h;refine ih _ y ?_;obtain ⟨h1,h2⟩:=EB o x acc;rcases h with h | h
      · exact .inl (h2 y h)
      · rcases List.mem_cons.1 h with rfl | h
        · exact .inl h1
        · exact .inr h
theorem ED {lt : α → α → Bool} (o : Ord lt) : ∀ a b : List α,Asc lt a → Asc lt b → (∀ y,y ∈ a ↔ y ∈ b) → a = b
  | [],[],_,_,_=>rfl
  | [],y :: b,_,_,h=>absurd ((h y).2 List.mem_cons_self) (by simp)
  | x :: a,[],_,_,h=>absurd ((h x).1 List.mem_cons_self) (by simp)
  | x :: a,y :: b,ha,hb,h=>by
    obtain ⟨ha1,ha2⟩:=List.pairwise_cons.1 ha;obtain ⟨hb1,hb2⟩:=List.pairwise_cons.1 hb
    have no : ∀ u v,lt u v = true → lt v u = true → False:=fun u v h1 h2=>by
      have:=o.tr _ _ _ h1 h2;rw [o.Qc] at this;cases this
    have e : x = y:=by
      rcases List.mem_cons.1 ((h x).1 List.mem_cons_self) with e | h1
      · exact e
      rcases List.mem_cons.1 ((h y).2 List.mem_cons_self) with e | h2
      · exact e.symm
      exact (no _ _ (ha1 _ h2) (hb1 _ h1)).elim
    subst e;rw [ED o a b ha2 hb2 fun z=>?_];constructor
    · intro hz;rcases List.mem_cons.1 ((h z).1 (List.mem_cons_of_mem _ hz)) with rfl | h1
      · have:=ha1 _ hz;rw [o.Qc] at this;cases this
      · exact h1
    · intro hz;rcases List.mem_cons.1 ((h z).2 (List.mem_cons_of_mem _ hz)) with rfl | h1
      · have:=hb1 _ hz;rw [o.Qc] at this;cases this
      · exact h1
theorem EF {lt : α → α → Bool} (o : Ord lt) (l r : List α) (h1 : Asc lt r) (h2 : ∀ y,y ∈ r ↔ y ∈ l) : r = aU lt l:=
  ED o _ _ h1 (BK o l).1 fun y=>(h2 y).trans ((BK o l).2 y).symm
theorem wS {lt : α → α → Bool} (o : Ord lt) (l : List α) (h : Asc lt l) : aU lt l = l:=(EF o l l h fun y=>Iff.rfl).symm
end dedup
namespace arith
open Go.ChangeShapes Go.WideShapes Go.ChangeAt Go.RowKit
def val : Option Int → Int
  | some x=>x
  | none=>0
def has : Option Int → Bool
  | some _=>true
  | none=>false
def two (o : Option Int) : Value:=.tuple #[.int .i64 (val o),.bool (has o)]
theorem qZ (x : Int) : two (some x) = .tuple #[.int .i64 x,.bool true]:=rfl
theorem mR : two none = .tuple #[.int .i64 0,.bool false]:=rfl
def y8 (a b : Int) : Option Int:=if 0 ≤ a ∧ 0 ≤ b ∧ a + b ≤ 9223372036854775807 then some (a + b) else none
def aee (a b : Int) : Option Int:=if 0 ≤ b ∧ b ≤ a then some (a - b) else none
def aa7 (a b : Int) : Option Int:=if 0 ≤ a ∧ 0 ≤ b ∧ a * b ≤ 9223372036854775807 then some (a * b) else none
def qE (a b : Int) : Int:=if a < b then -1 else if b < a then 1 else 0
def XY (b : Int) : Nat → Option Int
  | 0=>some 1
  | k + 1=>(XY b k).bind fun x=>aa7 x b
def acJ (b n : Int) : Option Int:=if 0 ≤ b ∧ 0 ≤ n ∧ n ≤ 100 then XY b n.toNat else none
def Jj (o : Option Int) (x : Int) : Option Int:=o.bind fun s=>y8 s x
def lY (l : List Int) : Option Int:=l.foldl Jj (some 0)
theorem Qd {a b : Int} (h0 : 0 ≤ a) (h1 : 0 ≤ b) (h2 : a + b ≤ 9223372036854775807) : y8 a b = some (a + b):=by unfold y8; rw [if_pos ⟨h0,h1,h2⟩]
theorem GY {a b : Int} (h : ¬ (0 ≤ a ∧ 0 ≤ b ∧ a + b ≤ 9223372036854775807)) : y8 a b = none:=by unfold y8; rw [if_neg h]
theorem VN {a b x : Int} (h : y8 a b = some x) : 0 ≤ a ∧ 0 ≤ b ∧ x = a + b ∧ x ≤ 9223372036854775807:=by
  unfold y8 at h
  split at h
  · injection h with h; rename_i h2; exact ⟨h2.1,h2.2.1,h.symm,h ▸ h2.2.2⟩
  · cases h
theorem EG (l : List Int) : lY (l.take 0) = some 0:=by simp [lY]
theorem EH {l : List Int} {k : Nat} (hk : k < l.length) : lY (l.take (k + 1)) = (lY (l.take k)).bind fun s=>y8 s (l.getD k 0):=by
  rw [List.take_succ_eq_append_getElem hk];unfold lY;rw [List.foldl_append,List.getD_eq_getElem?_getD,List.getElem?_eq_getElem hk];rfl
theorem Mv {l : List Int} {k : Nat} {s : Int} (hk : k < l.length) (h : lY (l.take k) = some s) : lY (l.take (k + 1)) = y8 s (l.getD k 0):=by rw [EH hk,h]; rfl
theorem Mw {l : List Int} {k : Nat} (h : lY (l.take k) = none) : lY l = none:=by
  have e : lY l = (l.drop k).foldl Jj (lY (l.take k)):=by
    unfold lY;rw [← List.foldl_append,List.take_append_drop]
  rw [e,h];clear e h
  induction l.drop k with
  | nil=>rfl
  | cons a r ih=>exact ih
theorem Mx : ∀ (k : Nat) {l : List Int} {s : Int},k ≤ l.length → lY (l.take k) = some s → 0 ≤ s ∧ s ≤ 9223372036854775807
  | 0,l,s,_,h=>by rw [EG] at h; injection h with h; omega
  | k + 1,l,s,hk,h=>by
    cases hp : lY (l.take k) with
    | none=>rw [EH (by omega),hp] at h; cases h
    | some y=>
      rw [Mv (by omega) hp] at h;have:=Mx k (by omega) hp;have:=VN h;omega
end arith
section
open Go Go.RowKit
def iK {α : Type} (c : α → α → Int) (lt : α → α → Bool) : Prop:=∀ a b,(c a b = 0 ∧ a = b) ∨ (c a b < 0 ∧ a ≠ b ∧ lt a b = true) ∨ (0 < c a b ∧ a ≠ b ∧ lt a b = false)
section
variable {α : Type} {c : α → α → Int} {lt : α → α → Bool}
theorem iK.less (h : iK c lt) (o : dedup.Ord lt) (a b : α) : decide (c a b < 0) = lt a b:=by
  rcases h a b with ⟨h1,h2⟩ | ⟨h1,_,h3⟩ | ⟨h1,_,h3⟩
  · subst h2; rw [h1,o.Qc]; rfl
  · rw [h3]; exact decide_eq_true h1
  · rw [h3]; exact decide_eq_false (by omega)
theorem iK.zero (h : iK c lt) (a b : α) : (c a b == 0) = lab.yes (a = b):=by
  rcases h a b with ⟨h1,h2⟩ | ⟨h1,h2,h3⟩ | ⟨h1,h2,h3⟩
  · rw [lab.aQ h2,h1]; rfl
  · rw [lab.aP h2]; exact beq_eq_false_iff_ne.2 (by omega)
  · rw [lab.aP h2]; exact beq_eq_false_iff_ne.2 (by omega)
theorem VO (o : dedup.Ord lt) (a b c : α) (h1 : lt a b = false) (h2 : lt b c = false) : lt a c = false:=by
  cases h : lt a c with
  | false=>rfl
  | true=>
    exfalso;by_cases hba : lt b a = true
    · have:=o.tr b a c hba h;rw [h2] at this; cases this
    · have hba : lt b a = false:=(by simpa using hba);rw [o.tot a b h1 hba,h2] at h;cases h
end
end
namespace arith
open Go.ChangeShapes Go.WideShapes Go.ChangeAt Go.RowKit
theorem Dm (x l m : Int) (w : World) (h1 : l ≤ x) (h2 : x ≤ m) :
    Calls Tryz.prog 53 #[.int .i64 x,.int .i64 l,.int .i64 m] w fun e w'=>e = .returned (.bool true) ∧ w = w':=by
  go_enter Tryz.func53,Tryz.ntmps53
  go_wp2
  all_goals go_ret
  all_goals exact ⟨rfl,rfl⟩
theorem Jk (x l m : Int) (w : World) (h : x < l ∨ m < x) :
    Calls Tryz.prog 53 #[.int .i64 x,.int .i64 l,.int .i64 m] w fun e w'=>e = .returned (.bool false) ∧ w = w':=by
  by_cases h1 : x < l
  · go_enter Tryz.func53,Tryz.ntmps53
    go_wp2
    all_goals go_ret
    all_goals exact ⟨rfl,rfl⟩
  · have h2 : m < x:=(by omega);have hd : decide (x ≤ m) = false:=(by simp; omega);go_enter Tryz.func53,Tryz.ntmps53
    go_wp2
    all_goals go_ret
    all_goals exact ⟨rfl,rfl⟩
end arith
namespace draw
open Go.ChangeShapes Go.WideShapes Go.ChangeAt Go.RowKit
def vE : List ByteArray:=[⟨#[97]⟩,⟨#[98]⟩,⟨#[99]⟩,⟨#[100]⟩,⟨#[119,101,98]⟩,⟨#[100,98,45,49]⟩,⟨#[120,57]⟩]
theorem Ba : ∀ x ∈ vE,x.size ≤ 4:=by decide
set_option maxRecDepth 100000 in
theorem xQ (c : Nat) (A : Option Addr) (len cap : Nat) (z : Nat → Int) (w : World) (hc : jJ w c A len cap z) :
    Calls Tryz.prog 82 #[.pointer (some ⟨c,0,none⟩)] w (Ki (fun x=>x.size ≤ 4) c A len cap z w):=by
  have HP:=Lib.hid (jT c A len cap z w.heap.size 7 (.slice (some ⟨w.heap.size,0,none⟩) 7 7) vE _ (dD hc (.cells (aT vE).toArray 9)) (by decide) (by decide) rfl hc.lt (World.ownsRow_lit w (aT vE).toArray 7 (Nat.le_refl _) (by simp [maxLen]) rfl));clear hc;go_enter Tryz.func82,Tryz.ntmps82;go_wp2_with fail;refine HP.out.mono ?_;rintro e w3 ⟨t,ht,rfl,hc3,hg3⟩;have XR:=Lib.hid (Ba t ht);have XT:=Lib.hid (aA (bX _ _ _) hg3);have XU:=Lib.hid hc3;clear HP hg3 hc3 ht;go_wp2_with fail;go_ret;exact ⟨t,XR.out,rfl,XU.out,XT.out⟩
end draw
namespace binfo
open Go.ChangeShapes Go.WideShapes Go.ChangeAt Go.RowKit
end binfo
namespace draw
open Go.ChangeShapes Go.WideShapes Go.ChangeAt Go.RowKit
theorem TryzinfoBA : (Tryz.prog.info? 5).map (fun i=>(i.zero,i.size,i.bytes)) = some (some (.int .u8 0),1,1):=by kernel_rfl
theorem pR (n : Nat) (w : World) (hn : n ≤ 20001) :
    Calls Tryz.prog 147 #[.int .i64 n,.int .u8 97] w fun e w'=>∃ t : ByteArray,t.size = n ∧ e = .returned (.string t) ∧ Below w.heap.size w w':=by
  obtain ⟨i0,hi,hz0,hz1,hz2⟩:=info_parts TryzinfoBA;go_enter Tryz.func147,Tryz.ntmps147;go_wp2_with (at_make; refine wpList_make_full _ rfl _ _ 22 rfl w.heap.size 5 i0 (.int .u8 0) 1 Tryz.underlying22 hi hz0 hz1 .i64 .i64 (n : Int) (n : Int) n rfl rfl rfl rfl (by rw [hz2]; omega) (by unfold maxLen; omega) (by simp) ?_);intro w1 hown1 hg1;have hb1 : Below w.heap.size w w1:=(Below.refl _ _).grown hg1 (Nat.le_refl _) (fun b hb=>by cases hb)
  have dY : Hid (∃ l : List UInt8,l.length = n ∧ w1.ownsRow w.heap.size 5 1 (.slice (some ⟨w.heap.size,0,none⟩) n n) n (dO l)):=by
    refine ⟨List.replicate n 0,by simp,?_⟩;have e : dO (List.replicate n (0 : UInt8)) = (madeCells #[.int .u8 0] n).toList:=(by rw [toList_madeCells_one]; simp [dO]);rw [e];simpa using hown1
  have Hb1:=Lib.hid hb1;clear hown1 hb1 hg1;go_wp2_with fail
  go_loopw [6] (fun i wr=>∃ k : Nat,k ≤ n ∧ i = .int .i64 k ∧ (∃ l : List UInt8,l.length = n ∧ wr.ownsRow w.heap.size 5 1 (.slice (some ⟨w.heap.size,0,none⟩) n n) n (dO l)) ∧ Below w.heap.size w wr) (fun i _=>n - (intOf i).toNat)
  case atStart=>exact ⟨0,Nat.zero_le _,rfl,dY.out,Hb1.out⟩
  case round=>
    clear dY Hb1;obtain ⟨k,hk,rfl,⟨l,hl,hown⟩,hbel⟩:=hrel;by_cases hlt : k < n
    · have hd:=hown.cellAt k (by omega);have hf:=hown.frozenAt k;have hln : k < (dO l).length:=(by have:=hown.1; omega);rw [List.getElem?_eq_getElem hln] at hd;have hst:=hown.stored k (.int .u8 97)
      have e : (dO l).set k (.int .u8 97) = dO (l.set k 97):=by
        unfold dO;rw [List.map_set];rfl
      rw [e] at hst;have q8 : Hid (∃ l2 : List UInt8,l2.length = n ∧ (wr.setCell ⟨w.heap.size,k,none⟩ (.int .u8 97)).ownsRow w.heap.size 5 1 (.slice (some ⟨w.heap.size,0,none⟩) n n) n (dO l2)):=⟨l.set k 97,by rw [List.length_set]; exact hl,hst.1⟩;have EI : Hid (Below w.heap.size w (wr.setCell ⟨w.heap.size,k,none⟩ (.int .u8 97))):=hbel.setCell (Nat.le_refl _) _;clear hst hown hbel e;generalize (dO l)[k] = old at hd;clear hln hl;go_wp2_with fail
      go_roundw
      case rel=>exact ⟨k + 1,by omega,by go_num,q8.out,EI.out⟩
      case measure=>simp [intOf]; omega
    · obtain rfl : k = n:=(by omega);have hcv:=jP (P:=Tryz.prog) wr 22 5 9 Tryz.underlying22 Tryz.underlying5 Tryz.underlying9 w.heap.size _ l (by unfold PY; rw [hl]; exact hown)
      have Hl : Hid ((⟨l.toArray⟩ : ByteArray).size = k):=by
        unfold Hid;show l.toArray.size = k;rw [List.size_toArray,hl]
      have bg:=Lib.hid hbel;clear hown hbel hl;go_wp2_with fail;go_ret;exact ⟨_,Hl.out,rfl,bg.out⟩
end draw
namespace draw
open Go.ChangeShapes Go.WideShapes Go.ChangeAt Go.RowKit
theorem TryzinfoBC : (Tryz.prog.info? 5).map (fun i=>(i.zero,i.size,i.bytes)) = some (some (.int .u8 0),1,1):=by kernel_rfl
theorem y9 (n : Nat) (w : World) (hn : n ≤ 20001) :
    Calls Tryz.prog 147 #[.int .i64 n,.int .u8 98] w fun e w'=>∃ t : ByteArray,t.size = n ∧ e = .returned (.string t) ∧ Below w.heap.size w w':=by
  obtain ⟨i0,hi,hz0,hz1,hz2⟩:=info_parts TryzinfoBC;go_enter Tryz.func147,Tryz.ntmps147;go_wp2_with (at_make; refine wpList_make_full _ rfl _ _ 22 rfl w.heap.size 5 i0 (.int .u8 0) 1 Tryz.underlying22 hi hz0 hz1 .i64 .i64 (n : Int) (n : Int) n rfl rfl rfl rfl (by rw [hz2]; omega) (by unfold maxLen; omega) (by simp) ?_);intro w1 hown1 hg1;have hb1 : Below w.heap.size w w1:=(Below.refl _ _).grown hg1 (Nat.le_refl _) (fun b hb=>by cases hb)
  have dY : Hid (∃ l : List UInt8,l.length = n ∧ w1.ownsRow w.heap.size 5 1 (.slice (some ⟨w.heap.size,0,none⟩) n n) n (dO l)):=by
    refine ⟨List.replicate n 0,by simp,?_⟩;have e : dO (List.replicate n (0 : UInt8)) = (madeCells #[.int .u8 0] n).toList:=(by rw [toList_madeCells_one]; simp [dO]);rw [e];simpa using hown1
  have Hb1:=Lib.hid hb1;clear hown1 hb1 hg1;go_wp2_with fail
  go_loopw [6] (fun i wr=>∃ k : Nat,k ≤ n ∧ i = .int .i64 k ∧ (∃ l : List UInt8,l.length = n ∧ wr.ownsRow w.heap.size 5 1 (.slice (some ⟨w.heap.size,0,none⟩) n n) n (dO l)) ∧ Below w.heap.size w wr) (fun i _=>n - (intOf i).toNat)
  case atStart=>exact ⟨0,Nat.zero_le _,rfl,dY.out,Hb1.out⟩
  case round=>
    clear dY Hb1;obtain ⟨k,hk,rfl,⟨l,hl,hown⟩,hbel⟩:=hrel;by_cases hlt : k < n
    · have hd:=hown.cellAt k (by omega);have hf:=hown.frozenAt k;have hln : k < (dO l).length:=(by have:=hown.1; omega);rw [List.getElem?_eq_getElem hln] at hd;have hst:=hown.stored k (.int .u8 98)
      have e : (dO l).set k (.int .u8 98) = dO (l.set k 98):=by
        unfold dO;rw [List.map_set];rfl
      rw [e] at hst;have q8 : Hid (∃ l2 : List UInt8,l2.length = n ∧ (wr.setCell ⟨w.heap.size,k,none⟩ (.int .u8 98)).ownsRow w.heap.size 5 1 (.slice (some ⟨w.heap.size,0,none⟩) n n) n (dO l2)):=⟨l.set k 98,by rw [List.length_set]; exact hl,hst.1⟩;have EI : Hid (Below w.heap.size w (wr.setCell ⟨w.heap.size,k,none⟩ (.int .u8 98))):=hbel.setCell (Nat.le_refl _) _;clear hst hown hbel e;generalize (dO l)[k] = old at hd;clear hln hl;go_wp2_with fail
      go_roundw
      case rel=>exact ⟨k + 1,by omega,by go_num,q8.out,EI.out⟩
      case measure=>simp [intOf]; omega
    · obtain rfl : k = n:=(by omega);have hcv:=jP (P:=Tryz.prog) wr 22 5 9 Tryz.underlying22 Tryz.underlying5 Tryz.underlying9 w.heap.size _ l (by unfold PY; rw [hl]; exact hown)
      have Hl : Hid ((⟨l.toArray⟩ : ByteArray).size = k):=by
        unfold Hid;show l.toArray.size = k;rw [List.size_toArray,hl]
      have bg:=Lib.hid hbel;clear hown hbel hl;go_wp2_with fail;go_ret;exact ⟨_,Hl.out,rfl,bg.out⟩
end draw
end Go.Proofs.YtcfbkfmkjggcdaaGreatDoor
