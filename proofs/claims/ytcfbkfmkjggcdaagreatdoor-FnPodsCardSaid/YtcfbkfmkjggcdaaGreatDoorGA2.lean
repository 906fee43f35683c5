/- Merged: DrawLongZ Figure DecimalS LawStrTo TrimP HeldT BigL IdI NmI. -/
import Derived.Test.YtcfbkfmkjggcdaaGreatDoorGA1
import Derived.Test.YtcfbkfmkjggcdaaGreatDoorRows
import Derived.Test.YtcfbkfmkjggcdaaGreatDoorGA0
import Derived.ProofKit
import Derived.OpenShut
import Derived.Lib.ItoaNum
import Derived.OwnWalk
import Derived.Lib.SlTrimSet
import Derived.StillTail
import Derived.Deep.RegionHeld
import Derived.Test.YtcfbkfmkjggcdaaGreatDoorShelf
import Derived.Shelf.Strings.SlTrimAscii
set_option linter.unusedVariables false
namespace Go.Proofs.YtcfbkfmkjggcdaaGreatDoor
namespace draw
open Go.ChangeShapes Go.WideShapes Go.ChangeAt Go.RowKit
theorem TryzinfoBZ : (Tryz.prog.info? 5).map (fun i=>(i.zero,i.size,i.bytes)) = some (some (.int .u8 0),1,1):=by kernel_rfl
theorem xR (n : Nat) (w : World) (hn : n ≤ 20001) :
    Calls Tryz.prog 147 #[.int .i64 n,.int .u8 122] w fun e w'=>∃ t : ByteArray,t.size = n ∧ e = .returned (.string t) ∧ Below w.heap.size w w':=by
  obtain ⟨i0,hi,hz0,hz1,hz2⟩:=info_parts TryzinfoBZ;go_enter Tryz.func147,Tryz.ntmps147;go_wp2_with (at_make; refine wpList_make_full _ rfl _ _ 22 rfl w.heap.size 5 i0 (.int .u8 0) 1 Tryz.underlying22 hi hz0 hz1 .i64 .i64 (n : Int) (n : Int) n rfl rfl rfl rfl (by rw [hz2]; omega) (by unfold maxLen; omega) (by simp) ?_);intro w1 hown1 hg1;have hb1 : Below w.heap.size w w1:=(Below.refl _ _).grown hg1 (Nat.le_refl _) (fun b hb=>by cases hb)
  have dY : Hid (∃ l : List UInt8,l.length = n ∧ w1.ownsRow w.heap.size 5 1 (.slice (some ⟨w.heap.size,0,none⟩) n n) n (dO l)):=by
    refine ⟨List.replicate n 0,by simp,?_⟩;have e : dO (List.replicate n (0 : UInt8)) = (madeCells #[.int .u8 0] n).toList:=(by rw [toList_madeCells_one]; simp [dO]);rw [e];simpa using hown1
  have Hb1:=Lib.hid hb1;clear hown1 hb1 hg1;go_wp2_with fail
  go_loopw [6] (fun i wr=>∃ k : Nat,k ≤ n ∧ i = .int .i64 k ∧ (∃ l : List UInt8,l.length = n ∧ wr.ownsRow w.heap.size 5 1 (.slice (some ⟨w.heap.size,0,none⟩) n n) n (dO l)) ∧ Below w.heap.size w wr) (fun i _=>n - (intOf i).toNat)
  case atStart=>exact ⟨0,Nat.zero_le _,rfl,dY.out,Hb1.out⟩
  case round=>
    clear dY Hb1;obtain ⟨k,hk,rfl,⟨l,hl,hown⟩,hbel⟩:=hrel;by_cases hlt : k < n
    · have hd:=hown.cellAt k (by omega);have hf:=hown.frozenAt k;have hln : k < (dO l).length:=(by have:=hown.1; omega);rw [List.getElem?_eq_getElem hln] at hd;have hst:=hown.stored k (.int .u8 122)
      have e : (dO l).set k (.int .u8 122) = dO (l.set k 122):=by
        unfold dO;rw [List.map_set];rfl
      rw [e] at hst;have q8 : Hid (∃ l2 : List UInt8,l2.length = n ∧ (wr.setCell ⟨w.heap.size,k,none⟩ (.int .u8 122)).ownsRow w.heap.size 5 1 (.slice (some ⟨w.heap.size,0,none⟩) n n) n (dO l2)):=⟨l.set k 122,by rw [List.length_set]; exact hl,hst.1⟩;have EI : Hid (Below w.heap.size w (wr.setCell ⟨w.heap.size,k,none⟩ (.int .u8 122))):=hbel.setCell (Nat.le_refl _) _;clear hst hown hbel e;generalize (dO l)[k] = old at hd;clear hln hl;go_wp2_with fail
      go_roundw
      case rel=>exact ⟨k + 1,by omega,by go_num,q8.out,EI.out⟩
      case measure=>simp [intOf]; omega
    · obtain rfl : k = n:=(by omega);have hcv:=jP (P:=Tryz.prog) wr 22 5 9 Tryz.underlying22 Tryz.underlying5 Tryz.underlying9 w.heap.size _ l (by unfold PY; rw [hl]; exact hown)
      have Hl : Hid ((⟨l.toArray⟩ : ByteArray).size = k):=by
        unfold Hid;show l.toArray.size = k;rw [List.size_toArray,hl]
      have bg:=Lib.hid hbel;clear hown hbel hl;go_wp2_with fail;go_ret;exact ⟨_,Hl.out,rfl,bg.out⟩
end draw
namespace hex
open Go.ChangeShapes Go.WideShapes Go.ChangeAt Go.RowKit
def BX (n : Nat) : UInt8:=if n < 10 then UInt8.ofNat (48 + n) else UInt8.ofNat (87 + n)
theorem V3 (x : Int) (h0 : 0 ≤ x) (h : x < 10) : ((BX x.toNat).toNat : Int) = 48 + x:=by
  unfold BX; rw [if_pos (by omega)]; simp; omega
theorem V4 (x : Int) (h0 : 10 ≤ x) (h : x < 16) : ((BX x.toNat).toNat : Int) = 97 + x - 10:=by
  unfold BX; rw [if_neg (by omega)]; simp; omega
theorem uO (x : Int) (w : World) (h0 : 0 ≤ x) (h1 : x < 16) :
    Calls Tryz.prog 192 #[.int .i64 x] w fun e w'=>e = .returned (.int .u8 (BX x.toNat).toNat) ∧ w = w':=by
  by_cases h : x < 10
  · go_enter Tryz.func192,Tryz.ntmps192
    go_wp2
    go_ret;exact ⟨Jf (V3 x h0 h).symm,rfl⟩
  · have h' : 10 ≤ x:=(by omega);go_enter Tryz.func192,Tryz.ntmps192
    go_wp2
    go_ret;exact ⟨Jf (by rw [V4 x h' h1]; try (simp; done)),rfl⟩
end hex
namespace decimal
open Go.ChangeShapes Go.WideShapes Go.ChangeAt Go.RowKit
def dz (u : Nat) : List UInt8:=if u = 0 then [] else Lib.decDigits u
theorem DK : dz 0 = []:=rfl
theorem DL {u : Nat} (h : 0 < u) : dz u = Lib.decDigits u:=by unfold dz; rw [if_neg (by omega)]
theorem Js {u : Nat} (h : 0 < u) : dz u = dz (u / 10) ++ [UInt8.ofNat (48 + u % 10)]:=by
  rw [DL h,Lib.decDigits];by_cases h1 : u < 10
  · rw [dif_pos h1];have : u / 10 = 0:=(by omega);rw [this,DK,Nat.mod_eq_of_lt h1]; rfl
  · rw [dif_neg h1,DL (by omega : 0 < u / 10)]
theorem Jt (u : Nat) (h : u < 10) : hex.BX u = UInt8.ofNat (48 + u):=by unfold hex.BX; rw [if_pos h]
theorem EU (w : World) (x : UInt8) :
    (convert 22 9 (.slice (some ⟨w.heap.size,0,none⟩) 1 1)).run Tryz.prog (w.alloc (.cells #[.int .u8 x.toNat] 5)) = .ok (.string ⟨#[x]⟩) (w.alloc (.cells #[.int .u8 x.toNat] 5)):=by
  have h:=jP (P:=Tryz.prog) (w.alloc (.cells #[.int .u8 x.toNat] 5)) 22 5 9 Tryz.underlying22 Tryz.underlying5 Tryz.underlying9 w.heap.size (.slice (some ⟨w.heap.size,0,none⟩) 1 1) [x] (World.ownsRow_lit (size:=1) (base:=w.heap.size) (e:=5) w #[.int .u8 x.toNat] 1 (Nat.le_refl _) (by simp [maxLen]) rfl);exact h
theorem Kw (w : World) :
    Calls Tryz.prog 150 #[.int .i64 0] w fun e w'=>e = .returned (.string ⟨(Lib.itoa 0).toArray⟩) ∧ Below w.heap.size w w':=by
  have Hi : Hid (Lib.itoa 0 = [48]):=(by unfold Hid; rw [Lib.itoa,if_neg (by omega),Lib.decDigits]; rfl);go_enter Tryz.func150,Tryz.ntmps150;go_wp2_with fail;go_ret;exact ⟨by rw [Hi.out]; rfl,Below.refl _ _⟩
theorem M6 (u0 : Nat) (w : World) (h0 : 0 < u0) (h1 : (u0 : Int) ≤ 9223372036854775807) :
    Calls Tryz.prog 150 #[.int .i64 u0] w fun e w'=>e = .returned (.string ⟨(Lib.itoa u0).toArray⟩) ∧ Below w.heap.size w w':=by
  have hi : Lib.itoa (u0 : Int) = dz u0:=(by rw [DL h0,Lib.itoa,if_neg (by omega)]; simp);have Hi:=Lib.hid hi;clear hi;have hz : ((u0 : Int) == 0) = false:=beq_eq_false_iff_ne.2 (by omega);go_enter Tryz.func150,Tryz.ntmps150;go_wp2_with fail
  go_loopw [0,4] (fun a s wr=>∃ (u : Nat) (acc : List UInt8),u ≤ u0 ∧ a = .int .i64 u ∧ s = .string ⟨acc.toArray⟩ ∧ acc.length ≤ u0 - u ∧ Hid (dz u ++ acc = dz u0) ∧ Below w.heap.size w wr) (fun a _ _=>(intOf a).toNat)
  case atStart=>exact ⟨u0,[],Nat.le_refl _,rfl,rfl,by simp,by unfold Hid; simp,Below.refl _ _⟩
  case round=>
    obtain ⟨u,acc,hu,rfl,rfl,hlen,hd,hbel⟩:=hrel;by_cases hp : 0 < u
    · have e1 : ((u : Int) != 0) = true:=(by rw [bne_iff_ne]; omega);have hs : dz (u / 10) ++ (UInt8.ofNat (48 + u % 10) :: acc) = dz u0:=(by rw [← hd.out,Js hp]; simp);have Hs:=Lib.hid hs;have hf : hex.BX ((u : Int) % 10).toNat = hex.BX (u % 10):=(by congr 1);have Hf : Hid (hex.BX (u % 10) = UInt8.ofNat (48 + u % 10)):=Jt _ (by omega);have Hc:=Lib.hid (fun W=>EU W (hex.BX (u % 10)));clear hs hd;go_wp2_with fail;refine (hex.uO _ _ (by omega) (by omega)).mono ?_;rintro e w1 ⟨rfl,rfl⟩;have hc:=Hc.out wr;have EW:=hbel.alloc hbel.size (.cells #[.int .u8 (hex.BX (u % 10)).toNat] 5);rw [hf];clear Hc hf;go_wp2_with fail
      go_roundw
      case rel=>exact ⟨u / 10,UInt8.ofNat (48 + u % 10) :: acc,by omega,by go_num,by rw [← Hf.out]; exact congrArg Value.string (pJ _ _),by simp; omega,Hs,EW⟩
      case measure=>simp [intOf]; omega
    · obtain rfl : u = 0:=(by omega);have ha : acc = dz u0:=(by rw [← hd.out,DK]; rfl);subst ha;go_wp2_with fail;go_ret;exact ⟨by rw [Hi.out]; rfl,hbel⟩
theorem M7 (u0 : Nat) (w : World) (h0 : 0 < u0) (h1 : (u0 : Int) ≤ 9223372036854775808) :
    Calls Tryz.prog 150 #[.int .i64 (-(u0 : Int))] w fun e w'=>e = .returned (.string ⟨(Lib.itoa (-(u0 : Int))).toArray⟩) ∧ Below w.heap.size w w':=by
  have hi : Lib.itoa (-(u0 : Int)) = 45 :: dz u0:=(by rw [DL h0,Lib.itoa,if_pos (by omega)]; simp);have Hi:=Lib.hid hi;clear hi;have hz : (-(u0 : Int) == 0) = false:=beq_eq_false_iff_ne.2 (by omega);have hneg : decide (-(u0 : Int) < 0) = true:=(by simp; omega);go_enter Tryz.func150,Tryz.ntmps150;go_wp2_with fail
  go_loopw [0,4] (fun a s wr=>∃ (u : Nat) (acc : List UInt8),u ≤ u0 ∧ a = .int .i64 (-(u : Int)) ∧ s = .string ⟨acc.toArray⟩ ∧ (u = 0 ∨ 2 * acc.length + u ≤ u0 + 2) ∧ 2 * acc.length ≤ u0 + 4 ∧ Hid (dz u ++ acc = dz u0) ∧ Below w.heap.size w wr) (fun a _ _=>(-(intOf a)).toNat)
  case atStart=>exact ⟨u0,[],Nat.le_refl _,rfl,rfl,by simp,by simp,by unfold Hid; simp,Below.refl _ _⟩
  case round=>
    obtain ⟨u,acc,hu,rfl,rfl,hlen,acM,hd,hbel⟩:=hrel;by_cases hp : 0 < u
    · have hlen3 : 2 * acc.length + u ≤ u0 + 2:=(by omega);clear hlen;have e1 : (-(u : Int) != 0) = true:=(by rw [bne_iff_ne]; omega);have e2 : (-(u : Int)).tmod 10 = -((u : Int) % 10):=(by rw [Int.neg_tmod,Int.tmod_eq_emod_of_nonneg (by omega)]);have e3 : (-(u : Int)).tdiv 10 = -((u : Int) / 10):=(by rw [Int.neg_tdiv,Int.tdiv_eq_ediv_of_nonneg (by omega)]);have hs : dz (u / 10) ++ (UInt8.ofNat (48 + u % 10) :: acc) = dz u0:=(by rw [← hd.out,Js hp]; simp);have Hs:=Lib.hid hs;have hf : hex.BX ((u : Int) % 10).toNat = hex.BX (u % 10):=(by congr 1);have Hf : Hid (hex.BX (u % 10) = UInt8.ofNat (48 + u % 10)):=Jt _ (by omega);have Hc:=Lib.hid (fun W=>EU W (hex.BX (u % 10)));have hq : (-((u : Int) / 10)) = -((u / 10 : Nat) : Int):=(by omega);have Hq:=Lib.hid hq;clear hs hd hq;by_cases hm : u % 10 = 0
      · have hm0 : (u : Int) % 10 = 0:=(by omega);have Hm:=Lib.hid hm;have hf0 : hex.BX (0 : Int).toNat = hex.BX (u % 10):=(by rw [hm]; rfl);clear hm hf;go_wp2_with fail;refine (hex.uO _ _ (by omega) (by omega)).mono ?_;rintro e w1 ⟨rfl,rfl⟩;have hc:=Hc.out wr;have EW:=hbel.alloc hbel.size (.cells #[.int .u8 (hex.BX (u % 10)).toNat] 5);rw [hf0];clear Hc hf0 hm0;go_wp2_with fail
        go_roundw
        case rel=>exact ⟨u / 10,UInt8.ofNat (48 + u % 10) :: acc,by omega,by rw [Hq.out],by rw [← Hf.out]; exact congrArg Value.string (pJ _ _),by simp; omega,by simp; omega,Hs,EW⟩
        case measure=>simp [intOf]; omega
      · have hlt : decide (-((u : Int) % 10) < 0) = true:=(by simp; omega);have hlt2 : 0 < (u : Int) % 10:=(by omega);go_wp2_with fail;refine (hex.uO _ _ (by omega) (by omega)).mono ?_;rintro e w1 ⟨rfl,rfl⟩;have hc:=Hc.out wr;have EW:=hbel.alloc hbel.size (.cells #[.int .u8 (hex.BX (u % 10)).toNat] 5);rw [hf];clear Hc hf;go_wp2_with fail
        go_roundw
        case rel=>exact ⟨u / 10,UInt8.ofNat (48 + u % 10) :: acc,by omega,by rw [Hq.out],by rw [← Hf.out]; exact congrArg Value.string (pJ _ _),by simp; omega,by simp; omega,Hs,EW⟩
        case measure=>simp [intOf]; omega
    · obtain rfl : u = 0:=(by omega);have ha : acc = dz u0:=(by rw [← hd.out,DK]; rfl);subst ha;go_wp2_with fail;go_ret;exact ⟨by rw [Hi.out]; exact PX (pJ _ _),hbel⟩
theorem zB (n : Int) (w : World) (h0 : -9223372036854775808 ≤ n) (h1 : n ≤ 9223372036854775807) :
    Calls Tryz.prog 150 #[.int .i64 n] w fun e w'=>e = .returned (.string ⟨(Lib.itoa n).toArray⟩) ∧ Below w.heap.size w w':=by
  by_cases hz : n = 0
  · subst hz; exact Kw w
  · by_cases hp : 0 < n
    · obtain ⟨u,rfl⟩:=Int.eq_ofNat_of_zero_le (show 0 ≤ n by omega);exact M6 u w (by omega) h1
    · obtain ⟨u,hu⟩:=Int.eq_ofNat_of_zero_le (show 0 ≤ -n by omega);obtain rfl : n = -(u : Int):=(by omega);exact M7 u w (by omega) (by omega)
end decimal
namespace lawStr
open Go.ChangeShapes Go.WideShapes Go.ChangeAt Go.RowKit
end lawStr
namespace lab
open Go Go.RowKit
theorem sM {p : UInt8 → Bool} (l : List UInt8) : (l.dropWhile p = l) ↔ ∀ b,l.head? = some b → p b = false:=by
  cases l with
  | nil=>simp
  | cons a r=>
    rw [List.dropWhile_cons];by_cases h : p a = true
    · rw [if_pos h];constructor
      · intro e;have h1:=congrArg List.length e;have h2:=(List.dropWhile_suffix (p:=p) (l:=r)).length_le;rw [List.length_cons] at h1;omega
      · intro e;have:=e a rfl;rw [this] at h; cases h
    · rw [if_neg h];simp at h;simp [h]
theorem BZ {p : UInt8 → Bool} (l : List UInt8) : (l.dropWhile p = []) ↔ ∀ b ∈ l,p b = true:=by
  induction l with
  | nil=>simp
  | cons a r ih=>
    rw [List.dropWhile_cons];by_cases h : p a = true
    · rw [if_pos h,ih]; simp [h]
    · rw [if_neg h]; simp [h]
theorem sN (l cs : List UInt8) : (Lib.trimS l cs = l) ↔ (∀ b,l.head? = some b → cs.contains b = false) ∧ (∀ b,l.getLast? = some b → cs.contains b = false):=by
  unfold Lib.trimS Lib.trimLeftS Lib.trimRightS;constructor
  · intro h;have h1:=congrArg List.length h;have h2:=(List.dropWhile_suffix (p:=(cs.contains ·)) (l:=(l.reverse.dropWhile (cs.contains ·)).reverse)).length_le;have h3:=(List.dropWhile_suffix (p:=(cs.contains ·)) (l:=l.reverse)).length_le;rw [List.length_reverse] at h2 h3;have h4 : l.reverse.dropWhile (cs.contains ·) = l.reverse:=(List.dropWhile_suffix _).eq_of_length (by rw [List.length_reverse]; omega);rw [h4,List.reverse_reverse] at h;refine ⟨(sM l).1 h,fun b hb=>(sM l.reverse).1 h4 b (by rw [List.head?_reverse]; exact hb)⟩
  · rintro ⟨h1,h2⟩;have h4 : l.reverse.dropWhile (cs.contains ·) = l.reverse:=(sM l.reverse).2 fun b hb=>h2 b (by rw [List.head?_reverse] at hb; exact hb);rw [h4,List.reverse_reverse];exact (sM l).2 h1
theorem sO (l cs : List UInt8) : (Lib.trimS l cs = []) ↔ ∀ b ∈ l,cs.contains b = true:=by
  unfold Lib.trimS Lib.trimLeftS Lib.trimRightS;rw [BZ];constructor
  · intro h;by_cases e : l.reverse.dropWhile (cs.contains ·) = []
    · intro b hb;exact (BZ l.reverse).1 e b (List.mem_reverse.2 hb)
    · exfalso;have hl:=List.head?_dropWhile_not (cs.contains ·) l.reverse;cases hd : l.reverse.dropWhile (cs.contains ·) with
      | nil=>exact e hd
      | cons a r=>
        rw [hd] at hl h;have:=h a (by simp);simp at hl;simp [hl] at this
  · intro h b hb;refine h b ?_;rw [List.mem_reverse] at hb;exact List.mem_reverse.1 ((List.dropWhile_suffix _).subset hb)
def M8 (most : Nat) (ls ms : List UInt8) (s : ByteArray) : Prop:=1 ≤ s.size ∧ s.size ≤ most ∧ Lib.trimS s.data.toList ms = s.data.toList ∧ Lib.trimS s.data.toList (ls ++ ms) = []
def DN : List UInt8:=[97,98,99,100,101,102,103,104,105,106,107,108,109,110,111,112,113,114,115,116,117,118,119,120,121,122,48,49,50,51,52,53,54,55,56,57]
def tH : List UInt8:=[65,66,67,68,69,70,71,72,73,74,75,76,77,78,79,80,81,82,83,84,85,86,87,88,89,90] ++ DN
theorem oU {P : UInt8 → Bool} (h : ∀ n,n < 256 → P (UInt8.ofNat n) = true) (b : UInt8) : P b = true:=by
  have:=h b.toNat b.toNat_lt
  rwa [UInt8.ofNat_toNat] at this
theorem Ju (b : UInt8) : uG (b.toNat : Int) = tH.contains b:=by
  have:=oU (P:=fun b=>uG (b.toNat : Int) == tH.contains b) (by decide +kernel) b;simpa using this
theorem Ca (b : UInt8) : qp (b.toNat : Int) = (DN ++ [45]).contains b:=by
  have:=oU (P:=fun b=>qp (b.toNat : Int) == (DN ++ [45]).contains b) (by decide +kernel) b;simpa using this
theorem Ql (b : UInt8) : tT Di (b.toNat : Int) = (tH ++ [45,95,46,47]).contains b:=by
  have:=oU (P:=fun b=>tT Di (b.toNat : Int) == (tH ++ [45,95,46,47]).contains b) (by decide +kernel) b;simpa using this
theorem Qm (b : UInt8) : tT Dj (b.toNat : Int) = (tH ++ [45,95,46]).contains b:=by
  have:=oU (P:=fun b=>tT Dj (b.toNat : Int) == (tH ++ [45,95,46]).contains b) (by decide +kernel) b;simpa using this
theorem DR (s : ByteArray) (i : Nat) (h : i < s.data.toList.length) : at_ s i = (s.data.toList[i].toNat : Int):=by
  unfold at_;rw [List.getD_eq_getElem?_getD,List.getElem?_eq_getElem h];rfl
theorem pV (s : ByteArray) : s.data.toList.length = s.size:=by rw [Array.length_toList]; rfl
theorem yL {s : ByteArray} (h : 1 ≤ s.size) : ∃ b,s.data.toList.head? = some b ∧ at_ s 0 = (b.toNat : Int) ∧ b ∈ s.data.toList:=by
  have hl : 0 < s.data.toList.length:=(by rw [pV]; omega);exact ⟨s.data.toList[0],by rw [List.head?_eq_getElem?,List.getElem?_eq_getElem hl],DR s 0 hl,List.getElem_mem hl⟩
theorem last_at {s : ByteArray} (h : 1 ≤ s.size) : ∃ b,s.data.toList.getLast? = some b ∧ at_ s (s.size - 1) = (b.toNat : Int) ∧ b ∈ s.data.toList:=by
  have hl : s.size - 1 < s.data.toList.length:=(by rw [pV]; omega);exact ⟨s.data.toList[s.size - 1],by rw [List.getLast?_eq_getElem?,pV,List.getElem?_eq_getElem hl],DR s _ hl,List.getElem_mem hl⟩
theorem DT {s : ByteArray} {p : Int → Bool} : (∀ i,i < s.size → p (at_ s i) = true) ↔ ∀ b ∈ s.data.toList,p (b.toNat : Int) = true:=by
  constructor
  · intro h b hb;obtain ⟨i,hi,rfl⟩:=List.getElem_of_mem hb;rw [← DR s i hi];exact h i (by rwa [pV] at hi)
  · intro h i hi;have hl : i < s.data.toList.length:=(by rwa [pV]);rw [DR s i hl];exact h _ (List.getElem_mem hl)
theorem M9 (s : ByteArray) : nL s ↔ M8 20 DN [45] s:=by
  constructor
  · rintro ⟨h1,h2,h3,h4,h5⟩;obtain ⟨a,ha,ha2,_⟩:=yL h1;obtain ⟨z,hz,hz2,_⟩:=last_at h1;rw [ha2] at h3;rw [hz2] at h4;refine ⟨h1,h2,(sN _ _).2 ⟨fun b hb=>?_,fun b hb=>?_⟩,(sO _ _).2 fun b hb=>?_⟩
    · obtain rfl : a = b:=(by rw [ha] at hb; exact Option.some.inj hb);simp only [List.contains_cons,List.contains_nil,Bool.or_false,beq_eq_false_iff_ne];rintro rfl; exact h3 rfl
    · obtain rfl : z = b:=(by rw [hz] at hb; exact Option.some.inj hb);simp only [List.contains_cons,List.contains_nil,Bool.or_false,beq_eq_false_iff_ne];rintro rfl; exact h4 rfl
    · rw [← Ca]; exact DT.1 h5 b hb
  · rintro ⟨h1,h2,h3,h4⟩;obtain ⟨h5,h6⟩:=(sN _ _).1 h3;have h7:=(sO _ _).1 h4;obtain ⟨a,ha,ha2,_⟩:=yL h1;obtain ⟨z,hz,hz2,_⟩:=last_at h1;have h5:=h5 a ha;have h6:=h6 z hz;simp only [List.contains_cons,List.contains_nil,Bool.or_false,beq_eq_false_iff_ne] at h5 h6;refine ⟨h1,h2,fun e=>h5 ?_,fun e=>h6 ?_,DT.2 fun b hb=>by rw [Ca]; exact h7 b hb⟩
    · rw [ha2] at e;apply UInt8.toNat_inj.1;have : (45 : UInt8).toNat = 45:=rfl;omega
    · rw [hz2] at e;apply UInt8.toNat_inj.1;have : (45 : UInt8).toNat = 45:=rfl;omega
theorem vI (a b : List UInt8) (x : UInt8) : (a ++ b).contains x = (a.contains x || b.contains x):=by
  rw [Bool.eq_iff_iff]; simp
theorem EX (o : ByteArray) (ms : List UInt8) (hall : ∀ b : UInt8,tT o (b.toNat : Int) = (tH ++ ms).contains b) (Yb : ∀ b : UInt8,uG (b.toNat : Int) = true → ms.contains b = false) (most : Nat) (s : ByteArray) : (s.size ≤ most ∧ oL o s) ↔ M8 most tH ms s:=by
  constructor
  · rintro ⟨h2,h1,h3,h4,h5⟩;obtain ⟨a,ha,ha2,_⟩:=yL h1;obtain ⟨z,hz,hz2,_⟩:=last_at h1;rw [ha2] at h3;rw [hz2] at h4;refine ⟨h1,h2,(sN _ _).2 ⟨fun b hb=>?_,fun b hb=>?_⟩,(sO _ _).2 fun b hb=>?_⟩
    · obtain rfl : a = b:=(by rw [ha] at hb; exact Option.some.inj hb);exact Yb _ h3
    · obtain rfl : z = b:=(by rw [hz] at hb; exact Option.some.inj hb);exact Yb _ h4
    · rw [← hall]; exact DT.1 h5 b hb
  · rintro ⟨h1,h2,h3,h4⟩;obtain ⟨h5,h6⟩:=(sN _ _).1 h3;have h7:=(sO _ _).1 h4;obtain ⟨a,ha,ha2,ham⟩:=yL h1;obtain ⟨z,hz,hz2,hzm⟩:=last_at h1;have h5:=h5 a ha;have h6:=h6 z hz;refine ⟨h2,h1,?_,?_,DT.2 fun b hb=>by rw [hall]; exact h7 b hb⟩
    · have:=h7 a ham;rw [vI,h5,Bool.or_false] at this;rw [ha2,Ju]; exact this
    · have:=h7 z hzm;rw [vI,h6,Bool.or_false] at this;rw [hz2,Ju]; exact this
theorem Qn (b : UInt8) : uG (b.toNat : Int) = true → ([45,95,46,47] : List UInt8).contains b = false:=by
  have:=oU (P:=fun b=>!uG (b.toNat : Int) || !([45,95,46,47] : List UInt8).contains b) (by decide +kernel) b;intro h;rw [h] at this;simpa using this
theorem Qo (b : UInt8) : uG (b.toNat : Int) = true → ([45,95,46] : List UInt8).contains b = false:=by
  have:=oU (P:=fun b=>!uG (b.toNat : Int) || !([45,95,46] : List UInt8).contains b) (by decide +kernel) b;intro h;rw [h] at this;simpa using this
theorem Qp (s : ByteArray) : gP s ↔ M8 30 tH [45,95,46,47] s:=EX Di _ Ql Qn 30 s
theorem Qq (s : ByteArray) : gG s ↔ s.size = 0 ∨ M8 20 tH [45,95,46] s:=by
  unfold gG;rw [EX Dj _ Qm Qo 20 s]
end lab
section
open Go Go.RowKit
section
variable {P : Program} {ops : Array Oper} {Q : Exit → Act → World → Prop} {md : Region.Mode} {S : World → Prop} {n : Nat}
def Ky (P : Program) (md : Region.Mode) (ops : Array Oper) (Q : Exit → Act → World → Prop) (S : World → Prop) (n : Nat) : Nat → Array Bool → Act → World → Prop
  | 0,l,a,w=>Region.ready md ops l = [] ∧ Q .normal a w
  | f + 1,l,a,w=>(Region.ready md ops l = [] → Q .normal a w) ∧ ∀ i ∈ Region.ready md ops l,wpOp P ops Q i (fun a' w'=>(i < n → S w') ∧ Ky P md ops Q S n f (l.setIfInBounds i true) a' w') a w
theorem EY : ∀ (f : Nat) (l : Array Bool) (a : Act) (w : World),Ky P md ops Q S n f l a w → wpAny P md ops Q f l a w
  | 0,_,_,_,h=>h
  | f + 1,_,_,_,h=>⟨h.1,fun i hi=>wpOp_mono (fun a' w' h'=>EY f _ a' w' h'.2) (h.2 i hi)⟩
theorem Kz {l : Array Bool} {a : Act} {w : World} (hr : Region.ready md ops l = []) (h : Q .normal a w) : ∀ f,Ky P md ops Q S n f l a w
  | 0=>⟨hr,h⟩
  | _ + 1=>⟨fun _=>h,fun i hi=>by rw [hr] at hi; cases hi⟩
theorem Ib {i : Nat} {oi : Oper} {v : Value} (hi : ops[i]? = some oi) (hsel : ∀ (j : Nat) (o : Oper) cs b,ops[j]? = some o → o.op ≠ .select cs b)
    (hs : Region.sinkB md ops n = true) (hc : Region.chainB md ops n = true) (hn : n < ops.size) (hin : i < n) (hQ : ∀ c a w,Q (.panic c) (a.put oi.dst v) w → Q (.panic c) a w) :
    ∀ (f : Nat) (l : Array Bool) (a : Act) (w : World),HeadInv md ops n l →
      (∀ j oj,ops[j]? = some oj → j ≠ i → l.getD j true = false → (∀ e ∈ oj.after,Region.binds md e = true → e.on ≠ i) → oi.apart ops oj = true) →
      i ∈ Region.ready md ops l → YieldsIf P ops S oi v a → S w → Ky P md ops Q S n f (l.setIfInBounds i true) (a.put oi.dst v) w → Ky P md ops Q S n (f + 1) l a w:=by
  intro f
  induction f with
  | zero=>
    intro l a w _ _ hr hy hS H;refine ⟨fun h=>(by rw [h] at hr; cases hr),fun j hj=>?_⟩;by_cases e : j = i
    · subst e; exact hy.wpOp hi hS ⟨fun _=>hS,H⟩
    · have h:=ready_mono hj e;rw [H.1] at h; cases h
  | succ f ih=>
    intro l a w inv hfree hr hy hS H;have hun:=(mem_ready.1 hr).1;refine ⟨fun h=>(by rw [h] at hr; cases hr),fun j hj=>?_⟩;by_cases e : j = i
    · subst e; exact hy.wpOp hi hS ⟨fun _=>hS,H⟩
    have hjn : j < n:=by
      rcases Nat.lt_or_ge j n with h | h
      · exact h
      · exact absurd hj (tail_waits hs hc hn inv _ i rfl hin hun j h)
    obtain ⟨hjun,oj,hoj,hall⟩:=mem_ready.1 hj
    have hnot : ∀ b ∈ oj.after,Region.binds md b = true → b.on ≠ i:=fun b hb hbb heq=>by
      have h:=hall b hb hbb;rw [heq,getD_both hun] at h;cases h
    have h2:=wpOp_putIf hoj (hfree j oj hoj e hjun hnot) (fun cs b=>hsel i oi cs b hi) (fun cs b=>hsel j oj cs b hoj) hQ hy (H.2 j (ready_mono hj e));refine wpOp_mono (fun a' w' h3=>⟨fun _=>h3.2.1 hjn,ih _ a' w' (inv.set hj hjn) (fun k ok hk hki hku hkn=>?_) (ready_mono hr (Ne.symm e)) h3.1 (h3.2.1 hjn) ?_⟩) h2
    · refine hfree k ok hk hki ?_ hkn;by_cases hjk : j = k
      · subst hjk; exact hjun
      · rw [getD_set_ne true hjk] at hku; exact hku
    · rw [Array.setIfInBounds_comm _ _ e];exact h3.2.2
def V5 (P : Program) (md : Region.Mode) (ops : Array Oper) (Q : Exit → Act → World → Prop) (S : World → Prop) (n f : Nat) (l : Array Bool) (a : Act) (w : World) : Prop:=HeadInv md ops n l → Ky P md ops Q S n f l a w
theorem bE {i : Nat} {oi : Oper} {v : Value} {f : Nat} {l : Array Bool} {a : Act} {w : World} (hi : ops[i]? = some oi) (h1 : (Region.noSelect ops && Region.sinkB md ops n && Region.chainB md ops n && decide (n < ops.size) && decide (i < n) && Region.free md ops l i && (Region.ready md ops l).contains i) = true)
    (hQ : ∀ c a w,Q (.panic c) (a.put oi.dst v) w → Q (.panic c) a w) (hy : YieldsIf P ops S oi v a) (hS : S w)
    (h : V5 P md ops Q S n f (l.setIfInBounds i true) (a.put oi.dst v) w) : V5 P md ops Q S n (f + 1) l a w:=fun inv=>by
  simp only [Bool.and_eq_true,decide_eq_true_eq] at h1;obtain ⟨⟨⟨⟨⟨⟨k1,k2⟩,k3⟩,k4⟩,k5⟩,k6⟩,k7⟩:=h1;have hr : i ∈ Region.ready md ops l:=(by simpa using k7);exact Ib hi (Region.noSelect_spec k1) k2 k3 k4 k5 hQ f l a w inv (Region.free_spec hi k6) hr hy hS (h (inv.set hr k5))
def bB (P : Program) (md : Region.Mode) (ops : Array Oper) (Q : Exit → Act → World → Prop) (S : World → Prop) (n f : Nat) (l : Array Bool) (a : Act) (w : World) (rs : List Nat) : Prop:=
  ∀ i ∈ rs,i < n ∧ wpOp P ops Q i (fun a' w'=>S w' ∧ V5 P md ops Q S n f (l.setIfInBounds i true) a' w') a w
theorem bB.nil {f : Nat} {l : Array Bool} {a : Act} {w : World} : bB P md ops Q S n f l a w []:=fun _ h=>by cases h
theorem bB.cons {f : Nat} {l : Array Bool} {a : Act} {w : World} {i : Nat} {o : Oper} {rs : List Nat} (ho : ops[i]? = some o) (hin : i < n)
    (h : ∀ K' : Act → World → Prop,Shut (∀ a w,S w → V5 P md ops Q S n f (l.setIfInBounds i true) a w → K' a w) → if Region.wanted o (yielded ops a.tmps) = true then Oper.wp P o a w K' Q else K' (a.put o.dst undef) w)
    (hs : bB P md ops Q S n f l a w rs) : bB P md ops Q S n f l a w (i :: rs):=fun j hj=>by
  rcases List.mem_cons.1 hj with rfl | hj
  · exact ⟨hin,wpOp_step ho fun K' hK=>h K' fun a w hS hW=>hK a w ⟨hS,hW⟩⟩
  · exact hs j hj
theorem bQ {rs : List Nat} {f : Nat} {l : Array Bool} {a : Act} {w : World} (hr : Region.ready md ops l = rs) (hne : rs ≠ []) (h : bB P md ops Q S n f l a w rs) : V5 P md ops Q S n (f + 1) l a w:=fun inv=>
  ⟨fun h0=>absurd (hr ▸ h0) hne,fun i hi=>wpOp_mono (fun a' w' h'=>⟨fun _=>h'.1,h'.2 (inv.set hi (h i (hr ▸ hi)).1)⟩) (h i (hr ▸ hi)).2⟩
theorem jL {f : Nat} {l : Array Bool} {a : Act} {w : World} {o : Oper} (hr : Region.ready md ops l = [n]) (hd : Region.ready md ops (l.setIfInBounds n true) = []) (ho : ops[n]? = some o)
    (h : ∀ K' : Act → World → Prop,Shut (∀ a w,Q .normal a w → K' a w) → if Region.wanted o (yielded ops a.tmps) = true then Oper.wp P o a w K' Q else K' (a.put o.dst undef) w) : V5 P md ops Q S n (f + 1) l a w:=fun _=>
  ⟨fun h0=>(by rw [hr] at h0; cases h0),fun i hi=>by
    rw [hr] at hi;obtain rfl:=List.mem_singleton.1 hi;exact wpOp_step ho fun K' hK=>h K' fun a w hq=>hK a w ⟨fun h=>absurd h (Nat.lt_irrefl _),Kz hd hq f⟩⟩
theorem nU {id : Nat} {a : Act} {w : World} (n : Nat) (hm : P.follows .mixedOrders = true) (S : World → Prop) (h : V5 P .any ops Q S n ops.size (Array.replicate ops.size false) a w.drew) : (Code.region id ops true).wp P Q a w:=
  wp_region_any hm (EY _ _ _ _ (h ⟨by simp,fun j oj _ hl=>(by rw [getD_replicate_false] at hl; cases hl),fun t _ ht=>(by simp [ht])⟩))
end
end
section
open Go Go.RowKit
theorem qo.below {k : IntKind} {w w' : World} {a : Option Addr} {len cap : Nat} {zs : List Int} (h : qo k w a len cap zs) (hb : Below w.heap.size w w') : qo k w' a len cap zs:=by
  rcases h with h | ⟨x,rfl,h1,h2,h3,h4,h5⟩
  · exact .inl h
  · exact .inr ⟨x,rfl,h1,h2,h3,fun i hi=>(hb.cell (p:=x.add i) (World.block_lt_of_cell? w _ (h4 i hi))).trans (h4 i hi),h5⟩
end
namespace lawBig
open Go.ChangeShapes Go.WideShapes Go.ChangeAt Go.RowKit
theorem any (A : Option Addr) (len cap : Nat) (w : World) (h : len ≤ maxLen) :
    Calls Tryz.prog 6 #[.slice A len cap] w fun e w'=>e = .returned (.bool (decide (1048576 < (len : Int)))) ∧ w = w':=by
  unfold maxLen at h;go_enter Tryz.func6,Tryz.ntmps6;go_wp2_with fail;go_ret;exact ⟨rfl,rfl⟩
end lawBig
namespace lab
open Go.ChangeShapes Go.WideShapes Go.ChangeAt Go.RowKit
theorem EZ (s cs : ByteArray) (w : World) (hs : s.size ≤ 9223372036854775807) (hcs : cs.size < 4294967281) (ha : ∀ (j : Nat) b,cs.data.toList[j]? = some b → b.toNat < 128) :
    Calls Tryz.prog 218 #[.string s,.string cs] w fun e w'=>e = .returned (.string ⟨(Lib.trimS s.data.toList cs.data.toList).toArray⟩) ∧ Below w.heap.size w w':=
  Any.strings_Trim_laid Tryz.lays160 (by kernel_rfl) s cs w hs hcs ha
theorem sP (s : ByteArray) : s.toList = s.data.toList:=ByteArray.toList_eq s
theorem KA {a b : ByteArray} (h1 : ∀ (j : Nat) c,a.data.toList[j]? = some c → c.toNat < 128) (h2 : ∀ (j : Nat) c,b.data.toList[j]? = some c → c.toNat < 128) :
    ∀ (j : Nat) c,(a ++ b).data.toList[j]? = some c → c.toNat < 128:=by
  intro j c h;have e : (a ++ b).data.toList = a.data.toList ++ b.data.toList:=(by simp);rw [e] at h;rcases List.mem_append.1 (List.mem_of_getElem? h) with h | h
  · obtain ⟨i,hi,rfl⟩:=List.getElem_of_mem h;exact h1 i _ (List.getElem?_eq_getElem hi)
  · obtain ⟨i,hi,rfl⟩:=List.getElem_of_mem h;exact h2 i _ (List.getElem?_eq_getElem hi)
set_option maxRecDepth 100000 in
set_option maxHeartbeats 4000000 in
theorem DU (s : ByteArray) (most : Nat) (ls ms : ByteArray) (w : World) (hs : s.size ≤ 9223372036854775807) (hm : most ≤ 100) (hls : ls.size ≤ 100) (hms : ms.size ≤ 100)
    (h1 : ∀ (j : Nat) b,ls.data.toList[j]? = some b → b.toNat < 128) (h2 : ∀ (j : Nat) b,ms.data.toList[j]? = some b → b.toNat < 128) :
    Calls Tryz.prog 180 #[.string s,.int .i64 most,.string ls,.string ms] w fun e w'=>e = .returned (.bool (yes (M8 most ls.data.toList ms.data.toList s))) ∧ Below w.heap.size w w':=by
  obtain ⟨R,hR⟩ : ∃ R,yes (M8 most ls.data.toList ms.data.toList s) = R:=⟨_,rfl⟩;rw [hR];have Hno : Hid (¬ M8 most ls.data.toList ms.data.toList s → R = false):=fun h=>by rw [← hR]; exact aP h
  have aG : Hid (M8 most ls.data.toList ms.data.toList s → R = true):=fun h=>by rw [← hR]; exact aQ h
  have HT1:=Lib.hid (fun w=>EZ s ms w hs (by omega) h2);have HT2:=Lib.hid (fun w=>EZ s (ls ++ ms) w hs (by rw [ByteArray.size_append]; omega) (KA h1 h2));have hap : (ls ++ ms).data.toList = ls.data.toList ++ ms.data.toList:=(by simp);rw [hap] at HT2;have hsum : ¬ 9223372036854775807 < ls.size + ms.size:=(by omega);clear hR h1 h2 hap;by_cases h0 : s.size = 0
  · have Hf:=Lib.hid (Hno.out fun h=>by have:=h.1; omega)
    have he : (s.toList == []) = true:=by
      have : s.toList.length = 0:=(by rw [sP,pV]; exact h0);rw [List.eq_nil_of_length_eq_zero this]; rfl
    clear Hno aG HT1 HT2 h0 hls hms;go_enter Tryz.func180,Tryz.ntmps180;go_wp2_with fail;go_ret;exact ⟨by rw [Hf.out]; rfl,Below.refl _ _⟩
  have he : (s.toList == []) = false:=by
    rw [beq_eq_false_iff_ne];intro e;apply h0;rw [← pV,← sP,e]; rfl
  by_cases hl : most < s.size
  · have Hf:=Lib.hid (Hno.out fun h=>by have:=h.2.1; omega);clear Hno aG HT1 HT2 h0 hls hms;go_enter Tryz.func180,Tryz.ntmps180;go_wp2_with fail;go_ret;exact ⟨by rw [Hf.out]; rfl,Below.refl _ _⟩
  by_cases ht : Lib.trimS s.data.toList ms.data.toList = s.data.toList
  case neg=>
    have Hf:=Lib.hid (Hno.out fun h=>ht h.2.2.1);generalize Lib.trimS s.data.toList ms.data.toList = t at HT1 ht;have hne : (t == s.toList) = false:=beq_eq_false_iff_ne.2 (by rw [sP]; exact ht);clear Hno aG HT2 h0 hls hms ht;go_enter Tryz.func180,Tryz.ntmps180;go_wp2_with fail;refine (HT1.out _).mono ?_;rintro e w1 ⟨rfl,hb⟩;go_wp2_with fail;go_ret;exact ⟨by rw [Hf.out]; rfl,hb⟩
  have qD:=Lib.hid (fun (h3 : Lib.trimS s.data.toList (ls.data.toList ++ ms.data.toList) = [])=>aG.out ⟨by omega,by omega,ht,h3⟩);have fq:=Lib.hid (fun (h3 : ¬ Lib.trimS s.data.toList (ls.data.toList ++ ms.data.toList) = [])=>Hno.out fun h=>h3 h.2.2.2);generalize Lib.trimS s.data.toList ms.data.toList = t at HT1 ht;have hne : (t == s.toList) = true:=beq_iff_eq.2 (by rw [sP]; exact ht);clear ht Hno aG h0 hls hms;generalize Lib.trimS s.data.toList (ls.data.toList ++ ms.data.toList) = u at HT2 qD fq;by_cases hu : u = []
  · have Hf:=Lib.hid (qD.out hu);subst hu;clear qD fq;go_enter Tryz.func180,Tryz.ntmps180;go_wp2_with fail;refine (HT1.out _).mono ?_;rintro e w1 ⟨rfl,hb⟩;go_wp2_with fail;refine (HT2.out _).mono ?_;rintro e w2 ⟨rfl,hb2⟩;go_wp2_with fail;go_ret;exact ⟨by rw [Hf.out]; rfl,hb.trans (hb2.mono hb.size)⟩
  · have Hf:=Lib.hid (fq.out hu);have hne2 : (u == []) = false:=beq_eq_false_iff_ne.2 hu;clear qD fq hu;go_enter Tryz.func180,Tryz.ntmps180;go_wp2_with fail;refine (HT1.out _).mono ?_;rintro e w1 ⟨rfl,hb⟩;go_wp2_with fail;refine (HT2.out _).mono ?_;rintro e w2 ⟨rfl,hb2⟩;go_wp2_with fail;go_ret;exact ⟨by rw [Hf.out]; rfl,hb.trans (hb2.mono hb.size)⟩
theorem E8 (s : ByteArray) (w : World) (hs : s.size ≤ 9223372036854775807) :
    Calls Tryz.prog 204 #[.string s] w fun e w'=>e = .returned (.bool (yes (gP s))) ∧ Below w.heap.size w w':=by
  have H:=Lib.hid (DU s 30 ⟨tH.toArray⟩ ⟨#[45,95,46,47]⟩ w hs (by decide) (by decide) (by decide) (ascii_of_all (by decide)) (ascii_of_all (by decide)))
  have e : yes (M8 30 (⟨tH.toArray⟩ : ByteArray).data.toList (⟨#[45,95,46,47]⟩ : ByteArray).data.toList s) = yes (gP s):=by
    congr 1; exact propext (Qp s).symm
  rw [e] at H;clear e;generalize yes (gP s) = R at H;unfold tH DN at H;go_enter Tryz.func204,Tryz.ntmps204;go_wp2_with fail;refine H.out.mono ?_;rintro e w1 ⟨rfl,hb⟩;go_wp2_with fail;go_ret;exact ⟨rfl,hb⟩
theorem E9 (s : ByteArray) (w : World) (hs : s.size ≤ 9223372036854775807) :
    Calls Tryz.prog 205 #[.string s] w fun e w'=>e = .returned (.bool (yes (gG s))) ∧ Below w.heap.size w w':=by
  have H:=Lib.hid (DU s 20 ⟨tH.toArray⟩ ⟨#[45,95,46]⟩ w hs (by decide) (by decide) (by decide) (ascii_of_all (by decide)) (ascii_of_all (by decide)));by_cases h0 : s.size = 0
  · have Hf:=Lib.hid (aQ (p:=gG s) (.inl h0))
    have he : (s.toList == []) = true:=by
      have : s.toList.length = 0:=(by rw [sP,pV]; exact h0);rw [List.eq_nil_of_length_eq_zero this]; rfl
    clear H h0;go_enter Tryz.func205,Tryz.ntmps205;go_wp2_with fail;go_ret;exact ⟨by rw [Hf.out]; rfl,Below.refl _ _⟩
  have he : (s.toList == []) = false:=by
    rw [beq_eq_false_iff_ne];intro e;apply h0;rw [← pV,← sP,e]; rfl
  have e : yes (M8 20 (⟨tH.toArray⟩ : ByteArray).data.toList (⟨#[45,95,46]⟩ : ByteArray).data.toList s) = yes (gG s):=by
    congr 1
    refine propext ?_;rw [Qq];constructor
    · exact fun h=>.inr h
    · rintro (h | h)
      · exact absurd h h0
      · exact h
  rw [e] at H;clear e h0;generalize yes (gG s) = R at H;unfold tH DN at H;go_enter Tryz.func205,Tryz.ntmps205;go_wp2_with fail;refine H.out.mono ?_;rintro e w1 ⟨rfl,hb⟩;go_wp2_with fail;go_ret;exact ⟨rfl,hb⟩
end lab
namespace lab
open Go.ChangeShapes Go.WideShapes Go.ChangeAt Go.RowKit
theorem Cb (s : ByteArray) (w : World) (hs : s.size ≤ 9223372036854775807) :
    Calls Tryz.prog 105 #[.string s] w fun e w'=>e = .returned (.bool (yes (nL s))) ∧ Below w.heap.size w w':=by
  have H:=Lib.hid (DU s 20 ⟨DN.toArray⟩ ⟨#[45]⟩ w hs (by decide) (by decide) (by decide) (ascii_of_all (by decide)) (ascii_of_all (by decide)))
  have e : yes (M8 20 (⟨DN.toArray⟩ : ByteArray).data.toList (⟨#[45]⟩ : ByteArray).data.toList s) = yes (nL s):=by
    congr 1; exact propext (M9 s).symm
  rw [e] at H;clear e;generalize yes (nL s) = R at H;unfold DN at H;go_enter Tryz.func105,Tryz.ntmps105;go_wp2_with fail;refine H.out.mono ?_;rintro e w1 ⟨rfl,hb⟩;go_wp2_with fail;go_ret;exact ⟨rfl,hb⟩
end lab
end Go.Proofs.YtcfbkfmkjggcdaaGreatDoor
