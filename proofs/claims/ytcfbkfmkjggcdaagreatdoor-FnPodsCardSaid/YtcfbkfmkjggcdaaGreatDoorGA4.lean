/- Merged: CellW El CellA Flat ClearK. -/
import Derived.Test.YtcfbkfmkjggcdaaGreatDoorCell
import Derived.Deep.MidRow
import Derived.Deep.Slices
import Derived.Maps.AppendAt
import Derived.Laws.IdiomCopy
import Derived.Laws.OwnMore
import Derived.Tactics
set_option linter.unusedVariables false
namespace Go.Proofs.YtcfbkfmkjggcdaaGreatDoor
open Go Go.RowKit
theorem bq.append {w : World} {B f : Nat} {xs ys : List Value} {ds es : List C} {F G : List Nat} (h : bq w B f xs ds F) (k : bq w B f ys es G) : bq w B f (xs ++ ys) (ds ++ es) (F ++ G):=by
  obtain ⟨h1,Fs,h2,rfl,h3⟩:=h;obtain ⟨j1,Gs,j2,rfl,j3⟩:=k;refine ⟨by simp [h1,j1],Fs ++ Gs,by simp [h2,j2],by simp,fun j u d Fm hu hd hF=>?_⟩;by_cases hj : j < ds.length
  · rw [List.getElem?_append_left (by omega)] at hu hd hF;exact h3 j u d Fm hu hd hF
  · rw [List.getElem?_append_right (by omega)] at hu hd hF;rw [h1] at hu;rw [h2] at hF;exact j3 _ u d Fm hu hd hF
def pO : List Value → Nat → List Value → List Value
  | xs,_,[]=>xs
  | xs,o,v :: r=>pO (xs.set o v) (o + 1) r
theorem xL : ∀ (vs xs : List Value) (o : Nat),(pO xs o vs).length = xs.length
  | [],xs,o=>rfl
  | v :: r,xs,o=>by rw [pO,xL r]; simp
theorem iq {B : Nat} {e : TypeId} {size g n c : Nat} : ∀ (vs xs : List Value) (o : Nat) (w : World),w.ownsRow B e size (.slice (some ⟨g,0,none⟩) n c) n xs →
    (w.setCells g o vs).ownsRow B e size (.slice (some ⟨g,0,none⟩) n c) n (pO xs o vs) ∧ w.grownBy (w.setCells g o vs) (some g)
  | [],xs,o,w,h=>⟨h,World.grownBy.refl _ _⟩
  | v :: r,xs,o,w,h=>by
    have h1:=h.stored o v;have h2:=iq r (xs.set o v) (o + 1) (w.setCell ⟨g,o,none⟩ v) h1.1;exact ⟨h2.1,aA h1.2 h2.2⟩
theorem Kj {w : World} {B : Nat} {e : TypeId} {size g n c : Nat} {xs : List Value} (h : w.ownsRow B e size (.slice (some ⟨g,0,none⟩) n c) n xs) (o m : Nat) (hm : o + m ≤ n * size) : w.there g o m:=by
  intro j hj;refine ⟨?_,h.frozenAt (o + j)⟩;rw [h.cellAt (o + j) (by omega)];have:=h.1;rw [List.getElem?_eq_getElem (by omega)];rfl
theorem wN {w : World} {B f : Nat} : ∀ (ks : List ByteArray),(∀ x ∈ ks,x.size ≤ maxLen) → bq w B (f + 1) (aT ks) (ks.map C.str) []
  | [],_=>bq.nil
  | s :: r,h=>bq.cons (lH (h s List.mem_cons_self)) (wN r (fun x hx=>h x (List.mem_cons_of_mem _ hx)))
theorem qU {w : World} {B f : Nat} {e : TypeId} {v : Value} {ks : List ByteArray} (h : w.ownsRow B e 1 v ks.length (aT ks)) (hs : ∀ x ∈ ks,x.size ≤ maxLen) : dx w B (f + 1) e 1 v ks.length (ks.map C.str):=
  ⟨_,[],h,by simp,wN ks hs,List.nodup_nil,fun x hx=>by cases hx⟩
theorem dx.lower {w : World} {B B' f : Nat} {e : TypeId} {size : Nat} {v : Value} {n : Nat} {cells : List C} (h : dx w B f e size v n cells) (hB : B' ≤ B) : dx w B' f e size v n cells:=by
  obtain ⟨xs,F,⟨h0,h1⟩,h2,h3,h4⟩:=h;refine ⟨xs,F,⟨h0,?_⟩,h2,h3.lower hB,h4⟩;rcases h1 with h1 | ⟨g,cap,cur,k1,k2,k3⟩
  · exact .inl h1
  · exact .inr ⟨g,cap,cur,k1,Nat.le_trans hB k2,k3⟩
theorem uZ {w : World} {B f n : Nat} {v : Value} {ks : List ByteArray} {F : List Nat} (h : Own w B f v (.sl 1 n (ks.map C.str)) F) : ∃ e,w.ownsRow B e 1 v n (aT ks) ∧ n = ks.length ∧ (v.ownBlock = none ∧ F = [] ∨ ∃ g,v.ownBlock = some g ∧ F = [g]):=by
  cases f with
  | zero=>exact h.elim
  | succ f=>
    obtain ⟨hl,⟨rfl,rfl,rfl⟩ | ⟨g,c,cur,e,Fs,rfl,h1,h2,h3,h4,hz,rfl,h5,h6⟩⟩:=h
    · have : ks = []:=List.eq_nil_of_length_eq_zero (by simpa using hl);subst this;exact ⟨0,World.ownsRow_nil _ _ _ _,rfl,.inl ⟨rfl,rfl⟩⟩
    · have hn : n = ks.length:=(by simpa using hl.symm);subst hn
      have hcell : ∀ m,m < ks.length → ∃ Fm,Fs[m]? = some Fm ∧ Fm = [] ∧ cur[m]? = some (.string (ks.getD m ⟨#[]⟩)):=fun m hm=>by
        have hF : Fs[m]? = some (Fs[m]'(by rw [h5]; simpa using hm)):=List.getElem?_eq_getElem _;obtain ⟨u,hu,ho⟩:=h6 m (.str ks[m]) _ (by simp [hm]) hF;refine ⟨_,hF,ho.flat trivial,?_⟩;rw [hu,(ho.lies).str.1];simp [List.getD,hm]
      have hFs : Fs.flatten = []:=by
        rw [List.flatten_eq_nil_iff];intro Fm nM;obtain ⟨m,hm,rfl⟩:=List.getElem_of_mem nM;obtain ⟨Fm',h7,h8,_⟩:=hcell m (by rw [h5] at hm; simpa using hm);rw [List.getElem?_eq_getElem hm] at h7;injection h7 with h7;rw [h7,h8]
      refine ⟨e,⟨by rw [bG]; simp,.inr ⟨g,c,cur,rfl,h3,h4,h1,h2,hz,?_⟩⟩,rfl,.inr ⟨g,rfl,by rw [hFs]⟩⟩;apply List.ext_getElem?;intro m;by_cases hm : m < ks.length
      · obtain ⟨_,_,_,h8⟩:=hcell m hm;rw [List.getElem?_take_of_lt (by omega),Array.getElem?_toList,h8,bV ks m hm];simp [List.getD,hm]
      · rw [List.getElem?_eq_none (by rw [List.length_take]; omega),List.getElem?_eq_none (by rw [bG]; omega)]
theorem Own.jU {w : World} {B f : Nat} {v : Value} {d : C} {F : List Nat} (h : Own w B f v d F) {g o : Nat} {u : Value} (hg : g < B) : Own (w.setCell ⟨g,o,none⟩ u) B f v d F:=
  h.kept (fun x hx=>Below.heap_setCell _ _ _ _ (by have:=(h.range x hx).1; show x ≠ g; omega))
theorem Own.gH {w : World} {B f : Nat} {v : Value} {d : C} {F : List Nat} (h : Own w B f v d F) {g : Nat} {c : Array Value} (hg : g < B) : Own (w.setRow g c) B f v d F:=
  h.kept (fun x hx=>by
    have:=(h.range x hx).1;simp only [World.setRow,Array.getElem?_modify];rw [if_neg (by omega)])
theorem Own.one {w : World} {B f : Nat} {v : Value} {d : C} {F : List Nat} (h : Own w B f v d F) : v.oneCell' = true:=by
  cases f with
  | zero=>exact h.elim
  | succ f=>
    cases d with
    | int k n=>obtain ⟨⟨rfl,_⟩,_⟩:=h; rfl
    | bool b=>obtain ⟨rfl,_⟩:=h; rfl
    | str s=>obtain ⟨⟨rfl,_⟩,_⟩:=h; rfl
    | sl size n cells=>
      obtain ⟨_,⟨rfl,_⟩ | ⟨g,c,cur,e,Fs,rfl,_⟩⟩:=h <;> rfl
theorem bq.one {w : World} {B f : Nat} {vs : List Value} {ds : List C} {F : List Nat} (h : bq w B f vs ds F) : vs.toArray.all (·.oneCell') = true:=by
  obtain ⟨h1,Fs,h2,rfl,h3⟩:=h;refine all_oneCell_toArray fun v hv=>?_;obtain ⟨m,hm,rfl⟩:=List.getElem_of_mem hv;exact (h3 m _ _ _ (List.getElem?_eq_getElem hm) (List.getElem?_eq_getElem (by omega)) (List.getElem?_eq_getElem (by omega))).one
theorem own_below' {w w' : World} {B : Nat} {e : TypeId} {size : Nat} {v : Value} {n : Nat} {xs : List Value} (h : w.ownsRow B e size v n xs) (hb : Below w.heap.size w w') : w'.ownsRow B e size v n xs:=
  h.kept (aR hb none) (by
    by_cases hv : v.ownBlock = none
    · exact .inl hv
    · exact .inr hv)
def mid (L ds R : List C) : List C:=L ++ (ds ++ R)
theorem AZ {w : World} {B f n : Nat} {e : TypeId} {v : Value} {ks : List ByteArray} (h : w.ownsRow B e 1 v n (aT ks)) (hn : n = ks.length) (hs : ∀ x ∈ ks,x.size ≤ maxLen) {F : List Nat} (hF : v.ownBlock = none ∧ F = [] ∨ ∃ g,v.ownBlock = some g ∧ F = [g]) : Own w B (f + 2) v (.sl 1 n (ks.map C.str)) F:=by
  subst hn;obtain ⟨h1,Fs,h2,h3,h4⟩:=wN (w:=w) (B:=B) (f:=f) ks hs;obtain ⟨F',h5,h6⟩:=yQ (B:=B) h (Nat.le_refl _) (by simp) h2 h4
  have : F' = F:=by
    rcases h6 with ⟨rfl,rfl⟩ | ⟨g,c,rfl,_,_,rfl⟩
    · rcases hF with ⟨_,rfl⟩ | ⟨g,hg,_⟩
      · rfl
      · simp [Value.ownBlock] at hg
    · rcases hF with ⟨hg,_⟩ | ⟨g',hg,rfl⟩
      · simp [Value.ownBlock] at hg
      · simp [Value.ownBlock] at hg;rw [← h3,hg]
  subst this;exact h5
def aeb (w : World) (g : Nat) (u0 u1 u2 u3 u4 u5 : Value) : Prop:=
  w.cell? ⟨g,0,none⟩ = some u0 ∧ w.cell? ⟨g,1,none⟩ = some u1 ∧ w.cell? ⟨g,2,none⟩ = some u2 ∧ w.cell? ⟨g,3,none⟩ = some u3 ∧ w.cell? ⟨g,4,none⟩ = some u4 ∧ w.cell? ⟨g,5,none⟩ = some u5
theorem ah {w a b : World} {B : Nat} (h : Below B w a) (k : Below a.heap.size a b) (hB : B ≤ a.heap.size) : Below B w b:=h.trans (k.mono hB)
end Go.Proofs.YtcfbkfmkjggcdaaGreatDoor
namespace Go.Proofs.YtcfbkfmkjggcdaaGreatDoor
open Go Go.RowKit
theorem gq {α β : Type} {f : α → List β} {sz : Nat} (hf : ∀ a,(f a).length = sz) : ∀ (l : List α) (i j : Nat) (a : α),l[i]? = some a → j < sz → (l.flatMap f)[i * sz + j]? = (f a)[j]?
  | [],i,j,a,h,_=>by simp at h
  | x :: l,0,j,a,h,hj=>by
    simp at h;subst h;rw [List.flatMap_cons,List.getElem?_append_left (by rw [hf]; omega)];simp
  | x :: l,i + 1,j,a,h,hj=>by
    rw [List.flatMap_cons,List.getElem?_append_right (by rw [hf,Nat.add_mul]; omega),hf,Nat.add_mul,show i * sz + 1 * sz + j - sz = i * sz + j by omega];exact gq hf l i j a (by simpa using h) hj
theorem aM {α β : Type} {f : α → List β} {sz : Nat} (hf : ∀ a,(f a).length = sz) : ∀ l : List α,(l.flatMap f).length = l.length * sz
  | []=>by simp
  | x :: l=>by rw [List.flatMap_cons,List.length_append,hf,aM hf l,List.length_cons,Nat.add_mul]; omega
def mg {α : Type} (row : α → List C) (w : World) (f : Nat) (A : Option Addr) (l : List α) (k : Nat) : Prop:=
  0 < l.length → ∃ g o,A = some ⟨g,o,none⟩ ∧ g < w.heap.size ∧ ∀ (j : Nat) (x : α),l[j]? = some x → ∃ us : List Value,us.length = k ∧ (∀ i u,us[i]? = some u → w.cell? ⟨g,o + j * k + i,none⟩ = some u) ∧ aH w f us (row x)
theorem mg.kept {α : Type} {row : α → List C} {w w' : World} {f : Nat} {A : Option Addr} {l : List α} {k : Nat} (h : mg row w f A l k) (hk : ∀ g,g < w.heap.size → w'.heap[g]? = w.heap[g]?) : mg row w' f A l k:=by
  intro hn;obtain ⟨g,o,rfl,hg,hc⟩:=h hn;have e:=hk g hg
  have hs : g < w'.heap.size:=by
    rw [Array.getElem?_eq_getElem hg] at e;exact aX e
  refine ⟨g,o,rfl,hs,fun j x hx=>?_⟩;obtain ⟨us,h1,h2,h3⟩:=hc j x hx;exact ⟨us,h1,fun i u hu=>(World.cell?_of_block e).trans (h2 i u hu),h3.kept hk⟩
theorem mg.below {α : Type} {row : α → List C} {w w' : World} {f : Nat} {A : Option Addr} {l : List α} {k : Nat} (h : mg row w f A l k) (hb : Below w.heap.size w w') : mg row w' f A l k:=h.kept hb.block
theorem bD {α : Type} {row : α → List C} {k : Nat} (hk : ∀ x,(row x).length = k) {w : World} {f : Nat} {v : Value} {l : List α} (h : bf w f v (.sl k l.length (l.flatMap row))) :
    ∃ A c,v = .slice A l.length c ∧ l.length ≤ c ∧ c ≤ maxLen ∧ ∃ f',f = f' + 1 ∧ mg row w f' A l k:=by
  obtain ⟨A,c,rfl,h1,h2,_,f',rfl,h3⟩:=h.sl;refine ⟨A,c,rfl,h1,h2,f',rfl,fun hn=>?_⟩;obtain ⟨g,o,rfl,hg,hc⟩:=h3 hn;refine ⟨g,o,rfl,hg,fun j x hx=>?_⟩
  have hone : ∀ i,i < k → ∃ u : Value,w.cell? ⟨g,o + (j * k + i),none⟩ = some u ∧ ∃ d,(row x)[i]? = some d ∧ bf w f' u d:=fun i hi=>by
    have hd : i < (row x).length:=(by rw [hk]; exact hi);obtain ⟨u,hu,hl⟩:=hc (j * k + i) (row x)[i] (by rw [gq hk l j i x hx hi]; exact List.getElem?_eq_getElem hd);exact ⟨u,hu,_,List.getElem?_eq_getElem hd,hl⟩
  obtain ⟨q,hq⟩:=Go.Deep.choose_lt hone;refine ⟨(List.range k).map q,by simp,fun i u hu=>?_,by simp [hk],fun m u d hu hd=>?_⟩
  · have hi : i < k:=(by have:=(List.getElem?_eq_some_iff.1 hu).1; simpa using this);simp [hi] at hu;subst hu;rw [Nat.add_assoc];exact (hq i hi).1
  · have hi : m < k:=(by have:=(List.getElem?_eq_some_iff.1 hu).1; simpa using this);simp [hi] at hu;subst hu;obtain ⟨_,d',e,hl⟩:=hq m hi;rw [e] at hd;injection hd with hd;exact hd ▸ hl
theorem mg.get {α : Type} {row : α → List C} {w : World} {f : Nat} {A : Option Addr} {l : List α} {k : Nat} (h : mg row w f A l k) {j : Nat} (hj : j < l.length) : ∃ g o,A = some ⟨g,o,none⟩ ∧ g < w.heap.size ∧ ∃ us : List Value,us.length = k ∧ (∀ i u,us[i]? = some u → w.cell? ⟨g,o + j * k + i,none⟩ = some u) ∧ aH w f us (row l[j]):=by
  obtain ⟨g,o,hA,hg,hc⟩:=h (by omega);exact ⟨g,o,hA,hg,hc j _ (List.getElem?_eq_getElem hj)⟩
def aec (left : Int) (x : Nat) : Int:=if left < x then -1 else left - x
def acH (l : Int) : Prop:=0 ≤ l ∧ l ≤ 1048576
def bH {α : Type} (wt : α → Nat) (l : List α) : Nat:=(l.map wt).sum
theorem xM {α : Type} (wt : α → Nat) (a b : List α) : bH wt (a ++ b) = bH wt a + bH wt b:=by simp [bH]
theorem BF {α : Type} (wt : α → Nat) {l : List α} {j : Nat} (h : j < l.length) : bH wt (l.take (j + 1)) = bH wt (l.take j) + wt l[j]:=by
  rw [List.take_succ_eq_append_getElem h,xM]; simp [bH]
theorem yR {α : Type} (wt : α → Nat) (l : List α) (j : Nat) : bH wt l = bH wt (l.take j) + bH wt (l.drop j):=by
  rw [← xM,List.take_append_drop]
theorem ko {α : Type} (wt : α → Nat) {l : List α} {j : Nat} (h : j < l.length) : wt l[j] ≤ bH wt l:=by
  have h1:=yR wt l (j + 1);rw [BF wt h] at h1;omega
def LX {α : Type} (mk : α → Int → α) (cost : α → Nat) : List α → Int → List α
  | [],_=>[]
  | x :: r,k=>mk x k :: LX mk cost r (k + cost x)
end Go.Proofs.YtcfbkfmkjggcdaaGreatDoor
namespace Go.Proofs.YtcfbkfmkjggcdaaGreatDoor
open Go Go.RowKit
theorem aW {w : World} {B : Nat} {e : TypeId} {size : Nat} {v : Value} {n : Nat} {xs : List Value} (h : w.ownsRow B e size v n xs) : ∃ A c,v = .slice A n c:=by
  rcases h.2 with ⟨rfl,rfl⟩ | ⟨g,cap,cur,rfl,_⟩
  · exact ⟨none,0,rfl⟩
  · exact ⟨_,_,rfl⟩
theorem bq.ones {w : World} {B f : Nat} {vs : List Value} {ds : List C} {F : List Nat} (h : bq w B f vs ds F) : ∀ u ∈ vs,u.oneCell' = true:=by
  obtain ⟨h1,Fs,h2,rfl,h3⟩:=h;intro v hv;obtain ⟨m,hm,rfl⟩:=List.getElem_of_mem hv;exact (h3 m _ _ _ (List.getElem?_eq_getElem hm) (List.getElem?_eq_getElem (by omega)) (List.getElem?_eq_getElem (by omega))).one
end Go.Proofs.YtcfbkfmkjggcdaaGreatDoor
namespace Go.Proofs.YtcfbkfmkjggcdaaGreatDoor
open Go Go.RowKit
def jI (w : World) (A : Option Addr) (m k : Nat) (news : List Value) : Prop:=
  news.length = m * k ∧ (0 < m → ∃ g o,A = some ⟨g,o,none⟩ ∧ g < w.heap.size ∧ ∀ j u,news[j]? = some u → w.cell? ⟨g,o + j,none⟩ = some u)
theorem jI.below {w w' : World} {A : Option Addr} {m k : Nat} {news : List Value} (h : jI w A m k news) (hb : Below w.heap.size w w') : jI w' A m k news:=by
  refine ⟨h.1,fun hm=>?_⟩;obtain ⟨g,o,hA,hg,hc⟩:=h.2 hm;exact ⟨g,o,hA,Nat.lt_of_lt_of_le hg hb.size,fun j u hu=>(World.cell?_of_block (hb.block g hg)).trans (hc j u hu)⟩
theorem qV {P : Program} {w : World} (base : Nat) (t ty e : TypeId) (i : TypeInfo) (z : Value) (size bytes : Nat) (ht : P.underlying t = some (.slice e)) (hi : P.info? e = some i) (hz : i.zero = some z)
    (hsize : i.size = size) (hby : i.bytes = bytes) (hzs : z.cells.size = size) (hsz : 0 < size) (v : Value) (n : Nat) (xs : List Value) (hown : w.ownsRow base e size v n xs)
    (A : Option Addr) (m c : Nat) (news : List Value) (hr : jI w A m size news) (h1 : ∀ u ∈ news,u.oneCell' = true)
    (h63 : n + m ≤ maxLen) (hbytes : (n + m) * bytes ≤ 140737488355328) (hbase : base ≤ w.heap.size) :
    ∃ v' w',(Builtin.append_ #[t,t] ty #[v,.slice A m c]).run P w = .ok v' w' ∧ w'.ownsRow base e size v' (n + m) (xs ++ news) ∧ w.grownBy w' v.ownBlock ∧ (v'.ownBlock = v.ownBlock ∨ v'.ownBlock = some w.heap.size):=by
  rcases Nat.eq_zero_or_pos m with hm | hm
  · subst hm;have hn : news = []:=List.eq_nil_of_length_eq_zero (by rw [hr.1]; simp);subst hn;cases A with
    | some ad=>
      obtain ⟨v',w',r0,r1,r2,_,r3⟩:=run_append_own_at (P:=P) w base t ty e i z size bytes ht hi hz hsize hby hzs hsz v n xs hown ad 0 c [] (by simp) (fun j u hu=>by simp at hu) h1 h63 hbytes hbase;exact ⟨v',w',r0,r1,r2,r3⟩
    | none=>
      refine ⟨v,w,?_,by simpa using hown,World.grownBy.refl _ _,.inl rfl⟩;subst hsize;rcases hown.2 with ⟨rfl,rfl⟩ | ⟨g,cap,cur,rfl,_,_,hnc,_⟩
      · simp [Builtin.append_,run_underlying ht,sizeOf,typeInfo,hi,Builtin.lenOf,Builtin.firstCells]
      · simp [Builtin.append_,run_underlying ht,sizeOf,typeInfo,hi,Builtin.lenOf,Builtin.firstCells,hnc,storeCells]
  · obtain ⟨g,o,rfl,hg,hc⟩:=hr.2 hm;obtain ⟨v',w',r0,r1,r2,_,r3⟩:=run_append_own_at (P:=P) w base t ty e i z size bytes ht hi hz hsize hby hzs hsz v n xs hown ⟨g,o,none⟩ m c news hr.1 (fun j u hu=>by rw [Addr.add_lit]; exact hc j u hu) h1 h63 hbytes hbase;exact ⟨v',w',r0,r1,r2,r3⟩
theorem aB {P : Program} {w : World} {ops : Array Oper} {rest : List Oper} {o : Oper} {a : Act} {Q : Exit → Act → World → Prop} (hgd : o.guard = none) (s x : Operand) (t : TypeId)
    (ho : o.op = .call { callee:=.builtin .append,args:=#[s,x],argTypes:=#[t,t] })
    (base : Nat) (e : TypeId) (i : TypeInfo) (z : Value) (size bytes : Nat) (ht : P.underlying t = some (.slice e)) (hi : P.info? e = some i) (hz : i.zero = some z)
    (hsize : i.size = size) (hby : i.bytes = bytes) (hzs : z.cells.size = size) (hsz : 0 < size)
    (v : Value) (n : Nat) (xs : List Value) (hs : a.eval s = v) (hown : w.ownsRow base e size v n xs)
    (A : Option Addr) (m c : Nat) (news : List Value) (hx : a.eval x = .slice A m c) (hr : jI w A m size news) (h1 : ∀ u ∈ news,u.oneCell' = true)
    (h63 : n + m ≤ maxLen) (hbytes : (n + m) * bytes ≤ 140737488355328) (hbase : base ≤ w.heap.size)
    (h : ∀ v' w',w'.ownsRow base e size v' (n + m) (xs ++ news) → w.grownBy w' v.ownBlock → (v'.ownBlock = v.ownBlock ∨ v'.ownBlock = some w.heap.size) → wpList P ops Q rest (a.put o.dst v') w') :
    wpList P ops Q (o :: rest) a w:=by
  refine wpList_plain hgd fun K hK=>?_;obtain ⟨v',w',hr',h2,h3,h5⟩:=qV (P:=P) base t o.type e i z size bytes ht hi hz hsize hby hzs hsz v n xs hown A m c news hr h1 h63 hbytes hbase;unfold Oper.wp execOp;simp only [ho,resolve,invoke,builtin,Sem.run_bind,Sem.run_pure,Result.andThen_ok,List.map_toArray,List.map_cons,List.map_nil,hs,hx,hr'];exact hK _ _ (h v' w' h2 h3 h5)
theorem dV {P : Program} {ops : Array Oper} {o : Oper} {a : Act} {w : World} {K : Act → World → Prop} {Q : Exit → Act → World → Prop} {E : Prop}
    (hg : o.guard = none) (s x : Operand) (t : TypeId) (hop : o.op = Op.call { callee:=Callee.builtin Builtin.append,args:=#[s,x],argTypes:=#[t,t] })
    (base : Nat) (e : TypeId) (i : TypeInfo) (z : Value) (size bytes : Nat) (ht : P.underlying t = some (.slice e)) (hi : P.info? e = some i) (hz : i.zero = some z)
    (hsize : i.size = size) (hby : i.bytes = bytes) (hzs : z.cells.size = size) (hsz : 0 < size)
    (v : Value) (n : Nat) (xs : List Value) (hs : a.eval s = v) (hown : w.ownsRow base e size v n xs)
    (A : Option Addr) (m c : Nat) (news : List Value) (hx : a.eval x = .slice A m c) (hr : jI w A m size news) (h1 : ∀ u ∈ news,u.oneCell' = true)
    (h63 : n + m ≤ maxLen) (hbytes : (n + m) * bytes ≤ 140737488355328) (hbase : base ≤ w.heap.size)
    (hK : ∀ v' w',w'.ownsRow base e size v' (n + m) (xs ++ news) → w.grownBy w' v.ownBlock → (v'.ownBlock = v.ownBlock ∨ v'.ownBlock = some w.heap.size) → K (a.put o.dst v') w') :
    if Region.wanted o (yielded ops a.tmps) = true then Oper.wp P o a w K Q else E:=by
  have hw : Region.wanted o (yielded ops a.tmps) = true:=(by simp [Region.wanted,hg]);rw [if_pos hw];obtain ⟨v',w',hrun,r1,r2,r3⟩:=qV (P:=P) base t o.type e i z size bytes ht hi hz hsize hby hzs hsz v n xs hown A m c news hr h1 h63 hbytes hbase;unfold Oper.wp;simp [execOp,hop,resolve,invoke,builtin,hs,hx,hrun,Result.andThen];exact hK v' w' r1 r2 r3
theorem fT {w : World} {B : Nat} {e : TypeId} {k g n c : Nat} {xs : List Value} (h : w.ownsRow B e k (.slice (some ⟨g,0,none⟩) n c) n xs) (p q m : Nat) (hq : q = p * k) (hm : p + m ≤ n) :
    jI w (some ⟨g,q,none⟩) m k ((xs.drop (p * k)).take (m * k)):=by
  subst hq;have hl:=h.1;refine ⟨?_,fun _=>⟨g,p * k,rfl,(h.lt g rfl).2,fun j u hu=>?_⟩⟩
  · rw [List.length_take,List.length_drop,hl,← Nat.sub_mul];exact Nat.min_eq_left (Nat.mul_le_mul_right _ (by omega))
  · have hj : j < m * k:=by
      have:=(List.getElem?_eq_some_iff.1 hu).1;rw [List.length_take] at this;omega
    rw [List.getElem?_take_of_lt hj,List.getElem?_drop] at hu;have:=h.cells (g:=g) rfl (p * k + j) u hu
    rwa [Addr.add_lit,Nat.zero_add] at this
theorem jI.nil (w : World) (A : Option Addr) (k : Nat) : jI w A 0 k []:=⟨by simp,fun h=>absurd h (by omega)⟩
theorem bR {w : World} {B B' : Nat} {e : TypeId} {size n : Nat} {v : Value} {xs : List Value} (h : w.ownsRow B e size v n xs) (hB : B' ≤ B) : w.ownsRow B' e size v n xs:=
  ⟨h.1,h.2.imp id (fun ⟨g,cap,cur,h1,h2,h3⟩=>⟨g,cap,cur,h1,Nat.le_trans hB h2,h3⟩)⟩
theorem iB {w : World} {B : Nat} {e : TypeId} {size n x : Nat} {v : Value} {xs : List Value} (h : w.ownsRow B e size v n xs) (hv : v.ownBlock = some x) : ∃ c,v = .slice (some ⟨x,0,none⟩) n c ∧ n ≤ c ∧ c ≤ maxLen ∧ B ≤ x:=by
  rcases h.2 with ⟨rfl,_⟩ | ⟨g,cap,cur,rfl,hb,_,h1,h2,_⟩
  · cases hv
  · injection hv with hv;subst hv;exact ⟨cap,rfl,h1,h2,hb⟩
end Go.Proofs.YtcfbkfmkjggcdaaGreatDoor
namespace Go.Proofs.YtcfbkfmkjggcdaaGreatDoor
open Go Go.RowKit
theorem tV (z : Array Value) (n : Nat) : (Builtin.zeroCells z n).toList.length = n * z.size:=by simp [Builtin.zeroCells]
theorem qW {P : Program} (w : World) (t e ty : TypeId) (z : Value) (ht : P.underlying t = some (.slice e)) (hv : ∀ w,(zeroValue e).run P w = .ok z w) (h1 : ∀ (i : Nat) (h : i < z.cells.size),(z.cells[i]).oneCell' = true) (b o n c : Nat) (hn : 0 < n) (hz : 0 < z.cells.size)
    (hc : ∀ j,j < n * z.cells.size → (w.cell? ⟨b,o + j,none⟩).isSome = true) (hf : ∀ j,j < n * z.cells.size → w.frozen? ⟨b,o + j,none⟩ = false) :
    (Builtin.clear_ #[t] ty #[.slice (some ⟨b,o,none⟩) n c]).run P w = .ok (.tuple #[]) (w.setCells b o (Builtin.zeroCells z.cells n).toList):=by
  have hst:=run_storeCells_cells (P:=P) b o (Builtin.zeroCells z.cells n).toList 0 w (fun j hj=>by rw [tV] at hj; simpa only [Nat.add_zero] using hc j hj) (fun j hj=>by rw [tV] at hj; simpa only [Nat.add_zero] using hf j hj) (by
    intro v hv';rw [Array.mem_toList_iff] at hv';unfold Builtin.zeroCells at hv';rw [Array.mem_map] at hv';obtain ⟨i,hi,rfl⟩:=hv';rw [getElem!_pos z.cells (i % z.cells.size) (Nat.mod_lt _ hz)];exact h1 _ _)
  simp only [Nat.add_zero] at hst;obtain ⟨m,rfl⟩ : ∃ m,n = m + 1:=⟨n - 1,by omega⟩;simp [Builtin.clear_,run_underlying ht,hv,hst]
theorem uH {w : World} {B : Nat} {e : TypeId} {size g n m c : Nat} {xs : List Value} (h : w.ownsRow B e size (.slice (some ⟨g,0,none⟩) n c) n xs) (hm : m ≤ n) : w.ownsRow B e size (.slice (some ⟨g,0,none⟩) m c) m (xs.take (m * size)):=by
  have hl:=h.1;have hle : m * size ≤ n * size:=Nat.mul_le_mul_right _ hm;rcases h.2 with ⟨h0,_⟩ | ⟨g',cap,cur,hv,h1,h2,h3,h4,h5,h6⟩
  · cases h0
  · injection hv with hv _ hc;injection hv with hv;injection hv with hv;subst hv hc;refine ⟨by rw [List.length_take]; omega,.inr ⟨g,c,cur,rfl,h1,h2,by omega,h4,h5,?_⟩⟩;rw [← h6,List.take_take,Nat.min_eq_left hle]
theorem qX : ∀ (vs xs : List Value) (o k : Nat),k ≤ o → (pO xs o vs).take k = xs.take k
  | [],xs,o,k,h=>rfl
  | v :: r,xs,o,k,h=>by rw [pO,qX r _ _ _ (by omega),List.take_set_of_le (by omega)]
end Go.Proofs.YtcfbkfmkjggcdaaGreatDoor
