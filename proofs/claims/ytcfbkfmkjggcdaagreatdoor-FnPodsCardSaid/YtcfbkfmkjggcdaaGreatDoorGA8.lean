/- Merged: DrawTt TyTolerance RdLM LinP RdBack SortP TaintM. -/
import Derived.Test.YtcfbkfmkjggcdaaGreatDoorGA6
import Derived.Test.YtcfbkfmkjggcdaaGreatDoorGA0
import Derived.Test.YtcfbkfmkjggcdaaGreatDoorGA7
import Derived.Test.YtcfbkfmkjggcdaaGreatDoorGA4
import Derived.Test.YtcfbkfmkjggcdaaGreatDoorGA1
set_option linter.unusedVariables false
namespace Go.Proofs.YtcfbkfmkjggcdaaGreatDoor
namespace draw
open Go.ChangeShapes Go.WideShapes Go.ChangeAt Go.RowKit ty
structure iC (m : Nat) (x : av) : Prop where
  key : x.key.size ≤ m
  value : x.value.size ≤ m
  lo : -1 ≤ x.effect
  hi : x.effect ≤ 4
theorem iC.wf {m : Nat} {x : av} (h : iC m x) (hm : m ≤ 1000) : x.Wf:=by
  exact ⟨by have:=h.key; unfold maxLen; omega,by have:=h.value; unfold maxLen; omega,Jl h.lo (by have:=h.hi; omega)⟩
theorem TryzsizeTn : (Tryz.prog.info? 72).map (·.size) = some 3:=by kernel_rfl
set_option maxRecDepth 1000000 in
set_option maxHeartbeats 16000000 in
theorem BM (c : Nat) (A : Option Addr) (len cap : Nat) (z : Nat → Int) (w : World) (hc : jJ w c A len cap z) :
    Calls Tryz.prog 193 #[.pointer (some ⟨c,0,none⟩)] w (Km av.cells (iC 5) c A len cap z w):=by
  have aL:=hc.lt;obtain ⟨W,hW⟩ : ∃ W,W = w.alloc (.cells #[.string ⟨#[]⟩,.string ⟨#[]⟩,.int .i64 0] 72):=⟨_,rfl⟩;have S0:=Lib.hid (show vF w c A len cap z 72 [.string ⟨#[]⟩,.string ⟨#[]⟩,.int .i64 0] W by rw [hW]; exact vF.new hc);have HW:=Lib.hid hW;have DC:=Lib.hid (mO c A len cap z W S0.out.cur);clear hc hW;go_enter Tryz.func193,Tryz.ntmps193;go_wp2_with fail;rw [← HW.out];go_wp2_with fail;refine DC.out.mono ?_;rintro e w1 ⟨k,hk,rfl,hc1,hg1⟩;have S1:=Lib.hid (S0.out.turn aL hc1 hg1);have HV:=Lib.hid (mP c A len cap z w1 hc1);clear hc1 hg1 DC S0;go_wp2_with fail;refine HV.out.mono ?_;rintro e w2 ⟨y,hy,rfl,hc2,hg2⟩;have S2:=Lib.hid (S1.out.turn aL hc2 hg2);have HB:=Lib.hid (bM c A len cap z 2 w2 hc2 (by decide) (by decide));clear hc2 hg2 HV S1;go_wp2_with fail;refine HB.out.mono ?_;rintro e w3 ⟨x,hx,rfl,hc3,hg3⟩;have S3:=Lib.hid (S2.out.turn aL hc3 hg3);have hwx : IntKind.i64.wrap (1 + x) = 1 + x:=IntWalk.i64_in _ (by omega);obtain ⟨n,hn⟩ : ∃ n,1 + x = n:=⟨_,rfl⟩;rw [hn] at hwx;have hn1 : 1 ≤ n:=(by omega);have hn2 : n ≤ 2:=(by omega);clear hc3 hg3 HB S2;have HR:=Lib.hid (S3.out.done (enc:=av.cells) (P:=(iC 5)) (x:=⟨k,y,n⟩) aL (⟨hk,by show y.size ≤ 5; omega,by show -1 ≤ n; omega,by show n ≤ 4; omega⟩));have bJ : (w3).heap[w.heap.size]? = some (.cells #[.string ⟨#[]⟩,.string ⟨#[]⟩,.int .i64 0] 72 (0,0)):=S3.out.zero;have tF:=Lib.hid bJ;go_wp2_with (first | (refine wpList_store_row rfl 72 _ _ rfl w.heap.size #[.string k,.string y,.int .i64 n] rfl rfl 72 _ bJ TryzsizeTn rfl (by simp [Value.oneCell']) ?_) | fail);refine bodyPost_ret (v:=.agg #[.string k,.string y,.int .i64 n]) ?_ rfl HR.out;exact results_cell_row rfl _ _ w.heap.size _ _ (0,0) _ rfl (aI tF.out) Tryz.underlying72 rfl TryzsizeTn
set_option maxRecDepth 1000000 in
set_option maxHeartbeats 16000000 in
theorem DF (c : Nat) (A : Option Addr) (len cap : Nat) (z : Nat → Int) (w : World) (hc : jJ w c A len cap z) :
    Calls Tryz.prog 154 #[.pointer (some ⟨c,0,none⟩)] w (Km av.cells (iC 5) c A len cap z w):=by
  have aL:=hc.lt;obtain ⟨W,hW⟩ : ∃ W,W = w.alloc (.cells #[.string ⟨#[]⟩,.string ⟨#[]⟩,.int .i64 0] 72):=⟨_,rfl⟩;have S0:=Lib.hid (show vF w c A len cap z 72 [.string ⟨#[]⟩,.string ⟨#[]⟩,.int .i64 0] W by rw [hW]; exact vF.new hc);have HW:=Lib.hid hW;have DC:=Lib.hid (BM c A len cap z W S0.out.cur);clear hc hW;go_enter Tryz.func154,Tryz.ntmps154;go_wp2_with fail;rw [← HW.out];go_wp2_with fail;refine DC.out.mono ?_;rintro e w1 ⟨t,ht,rfl,hc1,hg1⟩;have hb1 : w.heap.size < w1.heap.size:=aX (aC.cur S0.out.zero hg1 (by omega));have S1:=Lib.hid ((S0.out.turn aL hc1 hg1).box (us:=[.string t.key,.string t.value,.int .i64 t.effect]) aL);obtain ⟨X,hX⟩ : ∃ X,X = w1.alloc (.cells #[.string t.key,.string t.value,.int .i64 t.effect] 72):=⟨_,rfl⟩;have HX:=Lib.hid hX;have S2:=Lib.hid (show tC w c A len cap z 72 [.string ⟨#[]⟩,.string ⟨#[]⟩,.int .i64 0] w1.heap.size [.string t.key,.string t.value,.int .i64 t.effect] X by rw [hX]; exact S1.out);have HB:=Lib.hid (bM c A len cap z 10 X S2.out.cur (by decide) (by decide));obtain ⟨b,hb⟩ : ∃ b,b = w1.heap.size:=⟨_,rfl⟩;have Hb:=Lib.hid hb;rw [← hb] at hb1 S2;have ht1:=ht.key;have ht2:=ht.value;have ht3:=ht.lo;have Tv:=ht.hi;clear hc1 hg1 DC S0 S1 hX hb ht;obtain ⟨k,y,n⟩:=t;simp only [av.cells] at *;go_wp2_with fail;rw [← HX.out,← Hb.out];refine HB.out.mono ?_;rintro e w2 ⟨x,hx,rfl,hc2,hg2⟩;have S3:=Lib.hid (S2.out.turn aL hb1 hc2 hg2);clear hg2 HB S2;by_cases x0 : x = 0
  · subst x0;have HB:=Lib.hid (bM c A len cap z 5 w2 hc2 (by decide) (by decide));clear hc2;go_wp2_with fail;refine HB.out.mono ?_;rintro e w3 ⟨m,hm,rfl,hc3,hg3⟩;have S4:=Lib.hid (S3.out.turn aL hb1 hc3 hg3);have BN : IntKind.i64.wrap (m - 1) = m - 1:=IntWalk.i64_in _ (by omega);obtain ⟨n2,hn2⟩ : ∃ n,m - 1 = n:=⟨_,rfl⟩;rw [hn2] at BN;have hm1 : -1 ≤ n2:=(by omega);have hm2 : n2 ≤ 3:=(by omega);have p2:=S4.out.mine.cell 2 _ rfl;have f2:=aC.frozen S4.out.mine 2;have S5:=Lib.hid (S4.out.put aL hb1 2 (.int .i64 n2));clear hc3 hg3 HB S3 hm;have HR:=Lib.hid (S5.out.done (enc:=av.cells) (P:=(iC 5)) (x:=⟨k,y,n2⟩) aL (⟨ht1,ht2,hm1,by show n2 ≤ 4; omega⟩));have bJ : (w3.setCell ⟨b,2,none⟩ (.int .i64 n2)).heap[w.heap.size]? = some (.cells #[.string ⟨#[]⟩,.string ⟨#[]⟩,.int .i64 0] 72 (0,0)):=S5.out.zero;have tF:=Lib.hid bJ;have dJ : (w3.setCell ⟨b,2,none⟩ (.int .i64 n2)).heap[b]? = some (.cells #[.string k,.string y,.int .i64 n2] 72 (0,0)):=S5.out.mine;go_wp2_with (first | (refine wpList_load_row rfl 72 _ rfl b rfl 72 #[.string k,.string y,.int .i64 n2] (0,0) _ dJ Tryz.underlying72 rfl TryzsizeTn ?_) | (refine wpList_store_row rfl 72 _ _ rfl w.heap.size #[.string k,.string y,.int .i64 n2] rfl rfl 72 _ bJ TryzsizeTn rfl (by simp [Value.oneCell']) ?_) | fail);refine bodyPost_ret (v:=.agg #[.string k,.string y,.int .i64 n2]) ?_ rfl HR.out;exact results_cell_row rfl _ _ w.heap.size _ _ (0,0) _ rfl (aI tF.out) Tryz.underlying72 rfl TryzsizeTn
  have x0' : (x == 0) = false:=beq_eq_false_iff_ne.2 x0;by_cases x1 : x = 1
  · subst x1;have p0:=S3.out.mine.cell 0 _ rfl;have f0:=aC.frozen S3.out.mine 0;have S5:=Lib.hid (S3.out.put aL hb1 0 (.string ⟨#[]⟩));clear hc2 hx x0;have HR:=Lib.hid (S5.out.done (enc:=av.cells) (P:=(iC 5)) (x:=⟨⟨#[]⟩,y,n⟩) aL (⟨by show (⟨#[]⟩ : ByteArray).size ≤ 5; decide,ht2,ht3,Tv⟩));have bJ : (w2.setCell ⟨b,0,none⟩ (.string ⟨#[]⟩)).heap[w.heap.size]? = some (.cells #[.string ⟨#[]⟩,.string ⟨#[]⟩,.int .i64 0] 72 (0,0)):=S5.out.zero;have tF:=Lib.hid bJ;have dJ : (w2.setCell ⟨b,0,none⟩ (.string ⟨#[]⟩)).heap[b]? = some (.cells #[.string ⟨#[]⟩,.string y,.int .i64 n] 72 (0,0)):=S5.out.mine;go_wp2_with (first | (refine wpList_load_row rfl 72 _ rfl b rfl 72 #[.string ⟨#[]⟩,.string y,.int .i64 n] (0,0) _ dJ Tryz.underlying72 rfl TryzsizeTn ?_) | (refine wpList_store_row rfl 72 _ _ rfl w.heap.size #[.string ⟨#[]⟩,.string y,.int .i64 n] rfl rfl 72 _ bJ TryzsizeTn rfl (by simp [Value.oneCell']) ?_) | fail);refine bodyPost_ret (v:=.agg #[.string ⟨#[]⟩,.string y,.int .i64 n]) ?_ rfl HR.out;exact results_cell_row rfl _ _ w.heap.size _ _ (0,0) _ rfl (aI tF.out) Tryz.underlying72 rfl TryzsizeTn
  have x1' : (x == 1) = false:=beq_eq_false_iff_ne.2 x1;clear hc2 hx x0 x1;have HR:=Lib.hid (S3.out.done (enc:=av.cells) (P:=(iC 5)) (x:=⟨k,y,n⟩) aL (⟨ht1,ht2,ht3,Tv⟩));have bJ : (w2).heap[w.heap.size]? = some (.cells #[.string ⟨#[]⟩,.string ⟨#[]⟩,.int .i64 0] 72 (0,0)):=S3.out.zero;have tF:=Lib.hid bJ;have dJ : (w2).heap[b]? = some (.cells #[.string k,.string y,.int .i64 n] 72 (0,0)):=S3.out.mine;go_wp2_with (first | (refine wpList_load_row rfl 72 _ rfl b rfl 72 #[.string k,.string y,.int .i64 n] (0,0) _ dJ Tryz.underlying72 rfl TryzsizeTn ?_) | (refine wpList_store_row rfl 72 _ _ rfl w.heap.size #[.string k,.string y,.int .i64 n] rfl rfl 72 _ bJ TryzsizeTn rfl (by simp [Value.oneCell']) ?_) | fail);refine bodyPost_ret (v:=.agg #[.string k,.string y,.int .i64 n]) ?_ rfl HR.out;exact results_cell_row rfl _ _ w.heap.size _ _ (0,0) _ rfl (aI tF.out) Tryz.underlying72 rfl TryzsizeTn
end draw
namespace ty
open Go Go.RowKit
structure aj where
  key : ByteArray
  equal : Bool
  value : ByteArray
  effect : Int
namespace aj
def row (x : aj) : List C:=[.str x.key,.bool x.equal,.str x.value,.int .i64 x.effect]
theorem au (x : aj) : x.row.length = 4:=rfl
def wt (x : aj) : Nat:=x.key.size + x.value.size
def cost (_ : aj) : Nat:=4
def mark (_ : aj) (k : Int) : aj:=⟨(lawMark.mt k),(decide ((k + 1) % 3 = 0)),(lawMark.mt (k + 2)),(k + 3)⟩
def Wf (x : aj) : Prop:=x.key.size ≤ maxLen ∧ x.value.size ≤ maxLen ∧ (Lit.int .i64 x.effect).wf = true
theorem opened {w : World} {f : Nat} {us : List Value} {x : aj} (h : aH w f us x.row) : us = [.string x.key,.bool x.equal,.string x.value,.int .i64 x.effect] ∧ x.Wf:=by
  obtain ⟨v0,_,rfl,l0,h⟩:=h.bO;obtain ⟨v1,_,rfl,l1,h⟩:=h.bO;obtain ⟨v2,_,rfl,l2,h⟩:=h.bO;obtain ⟨v3,_,rfl,l3,h⟩:=h.bO;obtain rfl:=h.nO;obtain ⟨rfl,w0⟩:=l0.str;obtain rfl:=l1.bool;obtain ⟨rfl,w2⟩:=l2.str;obtain ⟨rfl,w3⟩:=l3.int;exact ⟨rfl,w0,w2,w3⟩
theorem owned {w : World} {B f : Nat} {x : aj} (h : x.Wf) : bq w B (f + 1) [.string x.key,.bool x.equal,.string x.value,.int .i64 x.effect] x.row []:=by
  obtain ⟨w0,w2,w3⟩:=h;exact bq.cons (lH w0) (bq.cons Ml (bq.cons (lH w2) (bq.cons (mD w3) (bq.nil))))
end aj
end ty
namespace lab
open Go Go.RowKit ty cut
def X8 (p : ByteArray) : Option Label:=match XW p 61 with
  | [a,b]=>some ⟨a,b⟩
  | _=>none
def pairs : List ByteArray → Option (List Label)
  | []=>some []
  | p :: r=>match X8 p,pairs r with
    | some x,some l=>some (x :: l)
    | _,_=>none
open Classical in
noncomputable def acL (s : ByteArray) : List Label × Bool:=
  if s = ⟨#[45]⟩ then ([],true) else if 400 < s.size then ([],false) else match pairs (XW s 44) with
    | some l=>if dw l then (l,true) else ([],false)
    | none=>([],false)
end lab
namespace lab
open Go Go.RowKit ty
end lab
namespace lab
open Go Go.RowKit ty cut
theorem lS : ∀ a : List UInt8,Op.bytesLess a a = false
  | []=>rfl
  | a :: x=>by
    rw [Op.bytesLess,lS x];simp
theorem iW : ∀ a b c : List UInt8,Op.bytesLess a b = true → Op.bytesLess b c = true → Op.bytesLess a c = true
  | _,[],_,h,_=>by simp [Op.bytesLess] at h
  | _,_ :: _,[],_,h=>by simp [Op.bytesLess] at h
  | [],_ :: _,_ :: _,_,_=>rfl
  | a :: x,b :: y,c :: z,h1,h2=>by
    simp only [Op.bytesLess,Bool.or_eq_true,Bool.and_eq_true,decide_eq_true_eq,beq_iff_eq] at h1 h2 ⊢;rcases h1 with h1 | ⟨rfl,h1⟩
    · rcases h2 with h2 | ⟨rfl,h2⟩
      · exact .inl (UInt8.lt_trans h1 h2)
      · exact .inl h1
    · rcases h2 with h2 | ⟨rfl,h2⟩
      · exact .inl h2
      · exact .inr ⟨rfl,iW x y z h1 h2⟩
theorem asc {l : List Label} (h : dw l) : ∀ (k j : Nat) (hk : k < l.length) (hj : j < k),aJ (l[j]'(by omega)).key l[k].key = true:=by
  intro k
  induction k with
  | zero=>intro j _ hj; omega
  | succ k ih=>
    intro j hk hj;have h1:=(h.2 (k + 1) hk hk).2.2 k rfl;by_cases e : j = k
    · subst e; exact h1
    · exact iW _ _ _ (ih j (by omega) (by omega)) h1
end lab
namespace lab
open Go Go.RowKit ty
theorem uM : ∀ a b : List UInt8,Op.bytesLess a b = false → Op.bytesLess b a = false → a = b
  | [],[],_,_=>rfl
  | [],b :: y,h,_=>by simp [Op.bytesLess] at h
  | a :: x,[],_,h=>by simp [Op.bytesLess] at h
  | a :: x,b :: y,h1,h2=>by
    simp only [Op.bytesLess,Bool.or_eq_false_iff,Bool.and_eq_false_iff,decide_eq_false_iff_not,beq_eq_false_iff_ne] at h1 h2;obtain ⟨h1,h3⟩:=h1;obtain ⟨h2,h4⟩:=h2;rw [UInt8.lt_iff_toNat_lt] at h1 h2;obtain rfl : a = b:=UInt8.toNat_inj.1 (by omega);rcases h3 with h3 | h3
    · exact absurd rfl h3
    · rcases h4 with h4 | h4
      · exact absurd rfl h4
      · rw [uM x y h3 h4]
theorem nR (a b c : List UInt8) (h1 : Op.bytesLess a b = false) (h2 : Op.bytesLess b c = false) : Op.bytesLess a c = false:=by
  cases h : Op.bytesLess a c with
  | false=>rfl
  | true=>
    exfalso;by_cases hba : Op.bytesLess b a = true
    · have:=iW b a c hba h;rw [h2] at this; cases this
    · have hba : Op.bytesLess b a = false:=(by simpa using hba);rw [uM a b h1 hba,h2] at h;cases h
theorem mV {a b : ByteArray} (h1 : aJ a b = false) (h2 : aJ b a = false) : a = b:=by
  have:=uM _ _ h1 h2;rw [ByteArray.toList_eq,ByteArray.toList_eq] at this;apply ByteArray.ext;exact Array.ext' this
def Weak (x y : Label) : Prop:=aJ y.key x.key = false
def Strict (x y : Label) : Prop:=aJ x.key y.key = true
theorem nS {x y : Label} (h : Strict x y) : Weak x y:=by
  unfold Strict at h;unfold Weak;cases h2 : aJ y.key x.key with
  | false=>rfl
  | true=>
    have:=iW _ _ _ h h2;rw [lS] at this;cases this
theorem uniq {a b : List Label} (h1 : a.Pairwise Strict) (h2 : b.Pairwise Weak) (hp : List.Perm a b) : a = b:=by
  refine List.Perm.eq_of_pairwise (le:=Weak) (fun x y hx hy e1 e2=>?_) (h1.imp nS) h2 hp;have hy:=hp.mem_iff.2 hy;obtain ⟨i,hi,rfl⟩:=List.getElem_of_mem hx;obtain ⟨j,hj,rfl⟩:=List.getElem_of_mem hy;have hk:=mV e2 e1;rw [List.pairwise_iff_getElem] at h1;rcases Nat.lt_trichotomy i j with h | h | h
  · have:=h1 i j hi hj h;unfold Strict aJ at this;rw [hk,lS] at this; cases this
  · subst h; rfl
  · have:=h1 j i hj hi h;unfold Strict aJ at this;rw [hk,lS] at this; cases this
theorem oF {l : List Label} (h : dw l) : l.Pairwise Strict:=by
  rw [List.pairwise_iff_getElem];intro i j hi hj hij;exact asc h j i hj hij
theorem MS (x : Label) (l : List Label) : List.Perm (ins x l) (x :: l):=by
  unfold ins;refine List.perm_middle.trans ?_;rw [List.takeWhile_append_dropWhile]
theorem sorted_perm (l : List Label) : List.Perm (sorted l) l:=by
  have h : ∀ (l acc : List Label),List.Perm (l.foldl (fun a x=>ins x a) acc) (acc ++ l):=by
    intro l
    induction l with
    | nil=>intro acc; simp
    | cons a r ih=>
      intro acc;rw [List.foldl_cons];refine (ih _).trans ?_;refine ((MS a acc).append_right r).trans ?_;rw [List.cons_append];exact (List.perm_middle (a:=a) (l₁:=acc) (l₂:=r)).symm
  have:=h l [];rw [List.nil_append] at this;exact this
theorem MU {x : Label} {l : List Label} (h : l.Pairwise Weak) : (ins x l).Pairwise Weak:=by
  unfold ins;rw [List.pairwise_append];have h1 : (l.takeWhile (fun y=>!aJ x.key y.key)).Pairwise Weak:=h.sublist (List.takeWhile_sublist _);have h2 : (l.dropWhile (fun y=>!aJ x.key y.key)).Pairwise Weak:=h.sublist (List.dropWhile_suffix _).sublist
  have h3 : ∀ y ∈ l.takeWhile (fun y=>!aJ x.key y.key),aJ x.key y.key = false:=fun y hy=>by
    have:=List.all_takeWhile (p:=fun y=>!aJ x.key y.key) (l:=l);have:=List.all_eq_true.1 this y hy;simpa using this
  have h4 : ∀ y ∈ l.dropWhile (fun y=>!aJ x.key y.key),aJ x.key y.key = true:=by
    cases hd : l.dropWhile (fun y=>!aJ x.key y.key) with
    | nil=>intro y hy; cases hy
    | cons z r=>
      have hz:=List.head?_dropWhile_not (fun y=>!aJ x.key y.key) l;rw [hd] at hz h2;simp at hz;intro y hy;rcases List.mem_cons.1 hy with rfl | hy
      · exact hz
      · have hw : Weak z y:=(List.pairwise_cons.1 h2).1 y hy;cases hxy : aJ x.key y.key with
        | true=>rfl
        | false=>
          exfalso;have:=nR _ _ _ hxy hw;unfold aJ at hz;rw [hz] at this; cases this
  refine ⟨h1,?_,?_⟩
  · rw [List.pairwise_cons];refine ⟨fun y hy=>?_,h2⟩;exact nS (h4 y hy)
  · intro a ha b hb;rcases List.mem_cons.1 hb with rfl | hb
    · exact h3 a ha
    · exact nS (by
        have e1:=h3 a ha;have e2:=h4 b hb;unfold Strict;cases hab : aJ a.key b.key with
        | true=>rfl
        | false=>
          exfalso;have:=nR _ _ _ e1 hab;unfold aJ at e2;rw [e2] at this; cases this)
theorem EN (l : List Label) : (sorted l).Pairwise Weak:=by
  have h : ∀ (l acc : List Label),acc.Pairwise Weak → (l.foldl (fun a x=>ins x a) acc).Pairwise Weak:=by
    intro l
    induction l with
    | nil=>intro acc h; exact h
    | cons a r ih=>intro acc h; rw [List.foldl_cons]; exact ih _ (MU h)
  exact h l [] List.Pairwise.nil
theorem zq {l d : List Label} (hp : List.Perm d l) (hw : d.Pairwise Weak) : (dw d ↔ dw (sorted l)) ∧ (dw d → d = sorted l):=by
  have hp2 : List.Perm d (sorted l):=hp.trans (sorted_perm l).symm;have h1 : dw d → d = sorted l:=fun h=>uniq (oF h) (EN l) hp2;refine ⟨⟨fun h=>by rw [← h1 h]; exact h,fun h=>?_⟩,h1⟩;rw [← uniq (oF h) hw hp2.symm];exact h
theorem vG {l d : List Label} (hp : List.Perm d l) (hw : d.Pairwise Weak) (h : dw d) : eB l = (d,true):=by
  have e:=(zq hp hw).2 h;subst e;exact EK (by have:=h.1; rw [lI] at this; exact this) h
theorem EO {l d : List Label} (hp : List.Perm d l) (hw : d.Pairwise Weak) (h : ¬ dw d) : eB l = (l,false):=
  Dr fun h2=>h ((zq hp hw).1.2 h2.2)
end lab
namespace taint
open Go Go.RowKit ty lab dedup
section
variable {α : Type} {P : α → Prop} {lt : α → α → Bool}
def fE (P : α → Prop) (lt : α → α → Bool) (l : List α) (k : Nat) : Prop:=∀ i (h : i < l.length),i < k → P l[i] ∧ ∀ m (hm : m + 1 = i),lt (l[m]'(by omega)) l[i] = true
theorem fM {l : List α} {k : Nat} (h : fE P lt l k) (hk : k < l.length) (h2 : P l[k]) (h3 : ∀ m (hm : m + 1 = k),lt (l[m]'(by omega)) l[k] = true) : fE P lt l (k + 1):=fun i hi hik=>by
  by_cases e : i = k
  · subst e; exact ⟨h2,h3⟩
  · exact h i hi (by omega)
theorem Kq (o : Ord lt) {l : List α} (h : fE P lt l l.length) : Asc lt l:=by
  unfold Asc;rw [List.pairwise_iff_getElem];intro i j hi hj hij
  induction j with
  | zero=>omega
  | succ j ih=>
    have hs:=(h (j + 1) hj hj).2 j rfl;by_cases e : i = j
    · subst e; exact hs
    · exact o.tr _ _ _ (ih (by omega) (by omega)) hs
open Classical in
noncomputable def dK (P : List α → Prop) (lt : α → α → Bool) (l : List α) : List α × Bool:=if l.length ≤ 40 ∧ P (aU lt l) then (aU lt l,true) else (l,false)
theorem mJ {P : List α → Prop} {l : List α} (h : l.length ≤ 40 ∧ P (aU lt l)) : dK P lt l = (aU lt l,true):=by unfold dK; rw [if_pos h]
theorem kD {P : List α → Prop} {l : List α} (h : ¬ (l.length ≤ 40 ∧ P (aU lt l))) : dK P lt l = (l,false):=by unfold dK; rw [if_neg h]
theorem jY (P : List α → Prop) (l : List α) : dK P lt l = (l,false) ∨ (dK P lt l = (aU lt l,true) ∧ P (aU lt l)):=by
  by_cases h : l.length ≤ 40 ∧ P (aU lt l)
  · exact .inr ⟨mJ h,h.2⟩
  · exact .inl (kD h)
theorem BO {P : List α → Prop} {l : List α} {n : Nat} (h : l.length ≤ n) : (dK P lt l).1.length ≤ n:=by
  rcases jY (lt:=lt) P l with e | ⟨e,_⟩ <;> rw [e]
  · exact h
  · exact Nat.le_trans (fI _ _) h
end
structure iX (x : av) : Prop where
  key : gP x.key
  value : gG x.value
  lo : 1 ≤ x.effect
  hi : x.effect ≤ 2
def bA (a b : av) : Bool:=if a.key = b.key then (if a.value = b.value then decide (a.effect < b.effect) else aJ a.value b.value) else aJ a.key b.key
theorem G9 (a : ByteArray) : aJ a a = false:=lS _
theorem wW (a b c : ByteArray) (h1 : aJ a b = true) (h2 : aJ b c = true) : aJ a c = true:=iW _ _ _ h1 h2
theorem wX {a b : ByteArray} (h : aJ a b = true) : a ≠ b:=fun e=>by rw [e,G9] at h; cases h
theorem uN (a b : ByteArray) (h1 : aJ a b = false) (h2 : aJ b a = false) : a = b:=mV h1 h2
def lexB {β : Type} (f : β → ByteArray) (r : β → β → Bool) (a b : β) : Bool:=if f a = f b then r a b else aJ (f a) (f b)
theorem EP {β : Type} (f : β → ByteArray) (r : β → β → Bool) (Qc : ∀ a,r a a = false) (tot : ∀ a b,f a = f b → r a b = false → r b a = false → a = b) (tr : ∀ a b c,r a b = true → r b c = true → r a c = true) : Ord (lexB f r):=by
  refine ⟨fun a=>?_,fun a b h1 h2=>?_,fun a b c h1 h2=>?_⟩
  · unfold lexB; rw [if_pos rfl]; exact Qc a
  · unfold lexB at h1 h2;by_cases e : f a = f b
    · rw [if_pos e] at h1;rw [if_pos e.symm] at h2;exact tot a b e h1 h2
    · rw [if_neg e] at h1;rw [if_neg (fun h=>e h.symm)] at h2;exact absurd (uN _ _ h1 h2) e
  · unfold lexB at h1 h2 ⊢;by_cases e1 : f a = f b
    · rw [if_pos e1] at h1;by_cases e2 : f b = f c
      · rw [if_pos e2] at h2;rw [if_pos (e1.trans e2)];exact tr _ _ _ h1 h2
      · rw [if_neg e2] at h2;rw [if_neg (by rw [e1]; exact e2),e1];exact h2
    · rw [if_neg e1] at h1;by_cases e2 : f b = f c
      · rw [if_neg (by rw [← e2]; exact e1),← e2];exact h1
      · rw [if_neg e2] at h2;have h3:=wW _ _ _ h1 h2;rw [if_neg (wX h3)];exact h3
theorem ER : Ord bA:=by
  have e : bA = lexB av.key (lexB av.value fun a b=>decide (a.effect < b.effect)):=rfl;rw [e];refine EP _ _ (fun a=>?_) (fun a b hk h1 h2=>?_) (fun a b c h1 h2=>?_)
  · unfold lexB; simp
  · unfold lexB at h1 h2;by_cases ev : a.value = b.value
    · rw [if_pos ev] at h1;rw [if_pos ev.symm] at h2;simp only [decide_eq_false_iff_not] at h1 h2;cases a; cases b;simp only at *;obtain rfl:=hk;obtain rfl:=ev
      congr
      omega
    · rw [if_neg ev] at h1;rw [if_neg (fun h=>ev h.symm)] at h2;exact absurd (uN _ _ h1 h2) ev
  · unfold lexB at h1 h2 ⊢;by_cases e1 : a.value = b.value
    · rw [if_pos e1] at h1;by_cases e2 : b.value = c.value
      · rw [if_pos e2] at h2;rw [if_pos (e1.trans e2)];simp only [decide_eq_true_eq] at h1 h2 ⊢;omega
      · rw [if_neg e2] at h2;rw [if_neg (by rw [e1]; exact e2),e1];exact h2
    · rw [if_neg e1] at h1;by_cases e2 : b.value = c.value
      · rw [if_neg (by rw [← e2]; exact e1),← e2];exact h1
      · rw [if_neg e2] at h2;have h3:=wW _ _ _ h1 h2;rw [if_neg (wX h3)];exact h3
def bL (l : List av) : Prop:=l.length ≤ 4 ∧ fE iX bA l l.length
structure qF (x : aj) : Prop where
  lo : 0 ≤ x.effect
  hi : x.effect ≤ 2
  free : x.equal = false → x.value.size = 0 ∧ (x.key.size = 0 ∨ gP x.key)
  eq : x.equal = true → gP x.key ∧ gG x.value
def wY (a b : aj) : Bool:=if a.value = b.value then decide (a.effect < b.effect) else aJ a.value b.value
def DI (a b : aj) : Bool:=if a.equal = b.equal then wY a b else b.equal
def bU (a b : aj) : Bool:=if a.key = b.key then DI a b else aJ a.key b.key
theorem MV (a : aj) : wY a a = false:=by unfold wY; simp
theorem MW {a b : aj} (hk : a.key = b.key) (he : a.equal = b.equal) (h1 : wY a b = false) (h2 : wY b a = false) : a = b:=by
  unfold wY at h1 h2;by_cases ev : a.value = b.value
  · rw [if_pos ev] at h1;rw [if_pos ev.symm] at h2;simp only [decide_eq_false_iff_not] at h1 h2;cases a; cases b;simp only at *;obtain rfl:=hk;obtain rfl:=he;obtain rfl:=ev
    congr
    omega
  · rw [if_neg ev] at h1;rw [if_neg (fun h=>ev h.symm)] at h2;exact absurd (uN _ _ h1 h2) ev
theorem Qi {a b c : aj} (h1 : wY a b = true) (h2 : wY b c = true) : wY a c = true:=by
  unfold wY at h1 h2 ⊢;by_cases e1 : a.value = b.value
  · rw [if_pos e1] at h1;by_cases e2 : b.value = c.value
    · rw [if_pos e2] at h2;rw [if_pos (e1.trans e2)];simp only [decide_eq_true_eq] at h1 h2 ⊢;omega
    · rw [if_neg e2] at h2;rw [if_neg (by rw [e1]; exact e2),e1];exact h2
  · rw [if_neg e1] at h1;by_cases e2 : b.value = c.value
    · rw [if_neg (by rw [← e2]; exact e1),← e2];exact h1
    · rw [if_neg e2] at h2;have h3:=wW _ _ _ h1 h2;rw [if_neg (wX h3)];exact h3
theorem ES : Ord bU:=by
  have e : bU = lexB aj.key DI:=rfl;rw [e];refine EP _ _ (fun a=>?_) (fun a b hk h1 h2=>?_) (fun a b c h1 h2=>?_)
  · unfold DI; rw [if_pos rfl]; exact MV a
  · unfold DI at h1 h2;by_cases ee : a.equal = b.equal
    · rw [if_pos ee] at h1;rw [if_pos ee.symm] at h2;exact MW hk ee h1 h2
    · rw [if_neg ee] at h1;rw [if_neg (fun h=>ee h.symm)] at h2;exact absurd (by rw [h1,h2]) ee
  · unfold DI at h1 h2 ⊢;by_cases e1 : a.equal = b.equal
    · rw [if_pos e1] at h1;by_cases e2 : b.equal = c.equal
      · rw [if_pos e2] at h2;rw [if_pos (e1.trans e2)];exact Qi h1 h2
      · rw [if_neg e2] at h2;rw [if_neg (by rw [e1]; exact e2)];exact h2
    · rw [if_neg e1] at h1;by_cases e2 : b.equal = c.equal
      · rw [if_neg (by rw [← e2]; exact e1),← e2];exact h1
      · rw [if_neg e2] at h2;exact absurd (h1.trans h2.symm) e2
def dN (l : List aj) : Prop:=l.length ≤ 4 ∧ fE qF bU l l.length
open Classical in
noncomputable def aa8 (t : aj) (x : av) : Bool:=decide (qF t ∧ iX x ∧ (t.key.size = 0 ∨ t.key = x.key) ∧ (t.equal = false ∨ t.value = x.value) ∧ (t.effect = 0 ∨ t.effect = x.effect))
noncomputable def VY (l : List aj) (e : Int) (x : av) : Bool:=decide (x.effect = e) && !l.any (fun t=>aa8 t x)
noncomputable def unF (l : List aj) (bP : List av) (e : Int) : Nat:=(bP.filter (VY l e)).length
def allT : aj:=⟨⟨#[]⟩,false,⟨#[]⟩,0⟩
end taint
end Go.Proofs.YtcfbkfmkjggcdaaGreatDoor
