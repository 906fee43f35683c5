/- What a value holds, read to its end (numbers, strings, slices of such rows), whatever its type: as it lies in memory (Lies), and in memory of its own (Own: the blocks are listed, none twice). Over any program. -/
import Derived.Test.YtcfbkfmkjggcdaaGreatDoorGA0
namespace Go.Proofs.YtcfbkfmkjggcdaaGreatDoor
open Go Go.RowKit
set_option linter.unusedVariables false
inductive C where
  | int (k : IntKind) (n : Int)
  | bool (b : Bool)
  | str (s : ByteArray)
  | sl (size n : Nat) (cells : List C)
def bf (w : World) : Nat → Value → C → Prop
  | 0,_,_=>False
  | _ + 1,v,.int k n=>v = .int k n ∧ (Lit.int k n).wf = true
  | _ + 1,v,.bool b=>v = .bool b
  | _ + 1,v,.str s=>v = .string s ∧ s.size ≤ maxLen
  | f + 1,v,.sl size n cells=>∃ A c,v = .slice A n c ∧ n ≤ c ∧ c ≤ maxLen ∧ cells.length = n * size ∧
      (0 < n → ∃ g o,A = some ⟨g,o,none⟩ ∧ g < w.heap.size ∧ ∀ (m : Nat) (d : C),cells[m]? = some d → ∃ u : Value,w.cell? ⟨g,o + m,none⟩ = some u ∧ bf w f u d)
def Own (w : World) (B : Nat) : Nat → Value → C → List Nat → Prop
  | 0,_,_,_=>False
  | _ + 1,v,.int k n,F=>(v = .int k n ∧ (Lit.int k n).wf = true) ∧ F = []
  | _ + 1,v,.bool b,F=>v = .bool b ∧ F = []
  | _ + 1,v,.str s,F=>(v = .string s ∧ s.size ≤ maxLen) ∧ F = []
  | f + 1,v,.sl size n cells,F=>cells.length = n * size ∧ ((v = .slice none 0 0 ∧ n = 0 ∧ F = []) ∨
      ∃ (g c : Nat) (cur : Array Value) (e : TypeId) (Fs : List (List Nat)),v = .slice (some ⟨g,0,none⟩) n c ∧ n ≤ c ∧ c ≤ maxLen ∧ B ≤ g ∧ w.heap[g]? = some (.cells cur e (0,0)) ∧ cur.size = c * size ∧ F = g :: Fs.flatten ∧ Fs.length = cells.length ∧
        ∀ (m : Nat) (d : C) (Fm : List Nat),cells[m]? = some d → Fs[m]? = some Fm → ∃ u : Value,cur[m]? = some u ∧ Own w B f u d Fm)
structure yI (F : List Nat) (w w' : World) : Prop where
  os : w'.os = w.os
  tape : w'.tape = w.tape
  output : w'.output = w.output
  size : w.heap.size ≤ w'.heap.size
  block : ∀ k,k < w.heap.size → k ∉ F → w'.heap[k]? = w.heap[k]?
theorem yI.below {F : List Nat} {B : Nat} {a b c : World} (h : Below B a b) (k : yI F b c) (hB : B ≤ b.heap.size) (hF : ∀ x ∈ F,B ≤ x) : Below B a c:=
  ⟨k.os.trans h.os,k.tape.trans h.tape,k.output.trans h.output,Nat.le_trans h.size k.size,fun i hi=>(k.block i (Nat.lt_of_lt_of_le hi hB) (fun hx=>absurd (hF i hx) (by omega))).trans (h.block i hi)⟩
theorem aX {w : World} {g : Nat} {o : Obj} (h : w.heap[g]? = some o) : g < w.heap.size:=(Array.getElem?_eq_some_iff.1 h).1
theorem bf.deeper {w : World} : ∀ {f f' : Nat} {v : Value} {d : C},f ≤ f' → bf w f v d → bf w f' v d
  | 0,_,_,_,_,h=>h.elim
  | f + 1,0,_,_,hf,_=>absurd hf (by omega)
  | f + 1,f' + 1,v,.int k n,_,h=>h
  | f + 1,f' + 1,v,.bool b,_,h=>h
  | f + 1,f' + 1,v,.str s,_,h=>h
  | f + 1,f' + 1,v,.sl size n cells,hf,h=>by
    obtain ⟨A,c,h1,h2,h3,h4,h5⟩:=h;refine ⟨A,c,h1,h2,h3,h4,fun hn=>?_⟩;obtain ⟨g,o,rfl,hg,hc⟩:=h5 hn;exact ⟨g,o,rfl,hg,fun m d hd=>let ⟨u,hu,hl⟩:=hc m d hd; ⟨u,hu,bf.deeper (by omega) hl⟩⟩
theorem bf.kept {w w' : World} (hk : ∀ g,g < w.heap.size → w'.heap[g]? = w.heap[g]?) : ∀ {f : Nat} {v : Value} {d : C},bf w f v d → bf w' f v d
  | 0,_,_,h=>h.elim
  | f + 1,v,.int k n,h=>h
  | f + 1,v,.bool b,h=>h
  | f + 1,v,.str s,h=>h
  | f + 1,v,.sl size n cells,h=>by
    obtain ⟨A,c,h1,h2,h3,h4,h5⟩:=h;refine ⟨A,c,h1,h2,h3,h4,fun hn=>?_⟩;obtain ⟨g,o,rfl,hg,hc⟩:=h5 hn;have e:=hk g hg
    have hs : g < w'.heap.size:=by
      rw [Array.getElem?_eq_getElem hg] at e;exact aX e
    exact ⟨g,o,rfl,hs,fun m d hd=>let ⟨u,hu,hl⟩:=hc m d hd; ⟨u,(World.cell?_of_block e).trans hu,bf.kept hk hl⟩⟩
theorem bf.below {w w' : World} {f : Nat} {v : Value} {d : C} (h : bf w f v d) (hb : Below w.heap.size w w') : bf w' f v d:=h.kept hb.block
theorem bf.int {w : World} {f : Nat} {v : Value} {k : IntKind} {n : Int} (h : bf w f v (.int k n)) : v = .int k n ∧ (Lit.int k n).wf = true:=by
  cases f with
  | zero=>exact h.elim
  | succ f=>exact h
theorem bf.bool {w : World} {f : Nat} {v : Value} {b : Bool} (h : bf w f v (.bool b)) : v = .bool b:=by
  cases f with
  | zero=>exact h.elim
  | succ f=>exact h
theorem bf.str {w : World} {f : Nat} {v : Value} {s : ByteArray} (h : bf w f v (.str s)) : v = .string s ∧ s.size ≤ maxLen:=by
  cases f with
  | zero=>exact h.elim
  | succ f=>exact h
theorem bf.sl {w : World} {f : Nat} {v : Value} {size n : Nat} {cells : List C} (h : bf w f v (.sl size n cells)) :
    ∃ A c,v = .slice A n c ∧ n ≤ c ∧ c ≤ maxLen ∧ cells.length = n * size ∧ ∃ f',f = f' + 1 ∧
      (0 < n → ∃ g o,A = some ⟨g,o,none⟩ ∧ g < w.heap.size ∧ ∀ (m : Nat) (d : C),cells[m]? = some d → ∃ u : Value,w.cell? ⟨g,o + m,none⟩ = some u ∧ bf w f' u d):=by
  cases f with
  | zero=>exact h.elim
  | succ f=>
    obtain ⟨A,c,h1,h2,h3,h4,h5⟩:=h;exact ⟨A,c,h1,h2,h3,h4,f,rfl,h5⟩
theorem Own.range {w : World} {B : Nat} : ∀ {f : Nat} {v : Value} {d : C} {F : List Nat},Own w B f v d F → ∀ x ∈ F,B ≤ x ∧ x < w.heap.size
  | 0,_,_,_,h=>h.elim
  | f + 1,v,.int k n,F,h=>by obtain ⟨_,rfl⟩:=h; simp
  | f + 1,v,.bool b,F,h=>by obtain ⟨_,rfl⟩:=h; simp
  | f + 1,v,.str s,F,h=>by obtain ⟨_,rfl⟩:=h; simp
  | f + 1,v,.sl size n cells,F,h=>by
    obtain ⟨hl,⟨_,_,rfl⟩ | ⟨g,c,cur,e,Fs,rfl,h1,h2,h3,h4,hz,rfl,h5,h6⟩⟩:=h
    · simp
    · intro x hx;rcases List.mem_cons.1 hx with rfl | hx
      · exact ⟨h3,aX h4⟩
      · obtain ⟨Fm,nM,hxm⟩:=List.mem_flatten.1 hx;obtain ⟨m,hm,rfl⟩:=List.getElem_of_mem nM;have hmc : m < cells.length:=(by omega);obtain ⟨u,_,ho⟩:=h6 m cells[m] _ (List.getElem?_eq_getElem hmc) (List.getElem?_eq_getElem hm);exact Own.range ho x hxm
theorem Own.deeper {w : World} {B : Nat} : ∀ {f f' : Nat} {v : Value} {d : C} {F : List Nat},f ≤ f' → Own w B f v d F → Own w B f' v d F
  | 0,_,_,_,_,_,h=>h.elim
  | f + 1,0,_,_,_,hf,_=>absurd hf (by omega)
  | f + 1,f' + 1,v,.int k n,_,_,h=>h
  | f + 1,f' + 1,v,.bool b,_,_,h=>h
  | f + 1,f' + 1,v,.str s,_,_,h=>h
  | f + 1,f' + 1,v,.sl size n cells,F,hf,h=>by
    obtain ⟨hl,hc | ⟨g,c,cur,e,Fs,h0,h1,h2,h3,h4,hz,hF,h5,h6⟩⟩:=h
    · exact ⟨hl,.inl hc⟩
    · exact ⟨hl,.inr ⟨g,c,cur,e,Fs,h0,h1,h2,h3,h4,hz,hF,h5,fun m d Fm hd nM=>let ⟨u,hu,ho⟩:=h6 m d Fm hd nM; ⟨u,hu,Own.deeper (by omega) ho⟩⟩⟩
theorem Own.kept {w w' : World} {B : Nat} : ∀ {f : Nat} {v : Value} {d : C} {F : List Nat},(∀ x ∈ F,w'.heap[x]? = w.heap[x]?) → Own w B f v d F → Own w' B f v d F
  | 0,_,_,_,_,h=>h.elim
  | f + 1,v,.int k n,F,_,h=>h
  | f + 1,v,.bool b,F,_,h=>h
  | f + 1,v,.str s,F,_,h=>h
  | f + 1,v,.sl size n cells,F,hk,h=>by
    obtain ⟨hl,hc | ⟨g,c,cur,e,Fs,h0,h1,h2,h3,h4,hz,rfl,h5,h6⟩⟩:=h
    · exact ⟨hl,.inl hc⟩
    · refine ⟨hl,.inr ⟨g,c,cur,e,Fs,h0,h1,h2,h3,(hk g List.mem_cons_self).trans h4,hz,rfl,h5,fun m d Fm hd nM=>?_⟩⟩;obtain ⟨u,hu,ho⟩:=h6 m d Fm hd nM;exact ⟨u,hu,Own.kept (fun x hx=>hk x (List.mem_cons_of_mem _ (List.mem_flatten.2 ⟨Fm,List.mem_of_getElem? nM,hx⟩))) ho⟩
theorem Own.below {w w' : World} {B : Nat} {f : Nat} {v : Value} {d : C} {F : List Nat} (h : Own w B f v d F) (hb : Below w.heap.size w w') : Own w' B f v d F:=
  h.kept (fun x hx=>hb.block x (h.range x hx).2)
theorem Own.lower {w : World} {B B' : Nat} : ∀ {f : Nat} {v : Value} {d : C} {F : List Nat},B' ≤ B → Own w B f v d F → Own w B' f v d F
  | 0,_,_,_,_,h=>h.elim
  | f + 1,v,.int k n,F,_,h=>h
  | f + 1,v,.bool b,F,_,h=>h
  | f + 1,v,.str s,F,_,h=>h
  | f + 1,v,.sl size n cells,F,hB,h=>by
    obtain ⟨hl,hc | ⟨g,c,cur,e,Fs,h0,h1,h2,h3,h4,hz,hF,h5,h6⟩⟩:=h
    · exact ⟨hl,.inl hc⟩
    · exact ⟨hl,.inr ⟨g,c,cur,e,Fs,h0,h1,h2,Nat.le_trans hB h3,h4,hz,hF,h5,fun m d Fm hd nM=>let ⟨u,hu,ho⟩:=h6 m d Fm hd nM; ⟨u,hu,Own.lower hB ho⟩⟩⟩
theorem Own.lies {w : World} {B : Nat} : ∀ {f : Nat} {v : Value} {d : C} {F : List Nat},Own w B f v d F → bf w f v d
  | 0,_,_,_,h=>h.elim
  | f + 1,v,.int k n,F,h=>h.1
  | f + 1,v,.bool b,F,h=>h.1
  | f + 1,v,.str s,F,h=>h.1
  | f + 1,v,.sl size n cells,F,h=>by
    obtain ⟨hl,⟨rfl,rfl,_⟩ | ⟨g,c,cur,e,Fs,rfl,h1,h2,h3,h4,hz,rfl,h5,h6⟩⟩:=h
    · exact ⟨none,0,rfl,Nat.le_refl _,by simp [maxLen],hl,fun h=>absurd h (by omega)⟩
    · refine ⟨_,c,rfl,h1,h2,hl,fun _=>⟨g,0,rfl,aX h4,fun m d hd=>?_⟩⟩;have hm : m < cells.length:=(List.getElem?_eq_some_iff.1 hd).1;obtain ⟨u,hu,ho⟩:=h6 m d _ hd (List.getElem?_eq_getElem (by omega));refine ⟨u,?_,Own.lies ho⟩;rw [Nat.zero_add,cell_of_row w g m cur e (0,0) h4];exact hu
theorem nN (w : World) (B f size : Nat) : Own w B (f + 1) (.slice none 0 0) (.sl size 0 []) []:=⟨by simp,.inl ⟨rfl,rfl,rfl⟩⟩
theorem yQ {w : World} {B B' f : Nat} {e : TypeId} {size n : Nat} {v : Value} {xs : List Value} {cells : List C} {Fs : List (List Nat)} (h : w.ownsRow B' e size v n xs) (hB : B ≤ B') (hl : cells.length = n * size) (hF : Fs.length = cells.length)
    (hc : ∀ (m : Nat) (u : Value) (d : C) (Fm : List Nat),xs[m]? = some u → cells[m]? = some d → Fs[m]? = some Fm → Own w B f u d Fm) :
    ∃ F,Own w B (f + 1) v (.sl size n cells) F ∧ ((v = .slice none 0 0 ∧ F = []) ∨ ∃ g c,v = .slice (some ⟨g,0,none⟩) n c ∧ B' ≤ g ∧ g < w.heap.size ∧ F = g :: Fs.flatten):=by
  have hx:=h.1;rcases h.2 with ⟨rfl,rfl⟩ | ⟨g,c,cur,rfl,h1,h2,h3,h4,h5,h6⟩
  · exact ⟨[],⟨hl,.inl ⟨rfl,rfl,rfl⟩⟩,.inl ⟨rfl,rfl⟩⟩
  · refine ⟨g :: Fs.flatten,⟨hl,.inr ⟨g,c,cur,e,Fs,rfl,h3,h4,Nat.le_trans hB h1,h2,h5,rfl,hF,fun m d Fm hd nM=>?_⟩⟩,.inr ⟨g,c,rfl,h1,aX h2,rfl⟩⟩;have hm : m < cells.length:=(List.getElem?_eq_some_iff.1 hd).1;have hmx : m < xs.length:=(by omega);have e1 : xs[m]? = some (xs[m]'hmx):=List.getElem?_eq_getElem hmx;generalize (xs[m]'hmx) = u at e1;refine ⟨u,?_,hc m u d Fm e1 hd nM⟩;rw [← h6,List.getElem?_take_of_lt (by omega)] at e1;simpa using e1
theorem GU {Fs : List (List Nat)} (h : Fs.flatten.Nodup) {i : Nat} {Fi : List Nat} (hi : Fs[i]? = some Fi) : Fi.Nodup:=by
  induction Fs generalizing i with
  | nil=>simp at hi
  | cons a r ih=>
    rw [List.flatten_cons] at h;obtain ⟨h1,h2,_⟩:=List.nodup_append.1 h;cases i with
    | zero=>simp at hi; subst hi; exact h1
    | succ i=>exact ih h2 (by simpa using hi)
def C.flat : C → Prop
  | .sl _ _ _=>False
  | _=>True
theorem Own.flat {w : World} {B f : Nat} {v : Value} {d : C} {F : List Nat} (h : Own w B f v d F) (hd : d.flat) : F = []:=by
  cases f with
  | zero=>exact h.elim
  | succ f=>
    cases d with
    | int k n=>exact h.2
    | bool b=>exact h.2
    | str s=>exact h.2
    | sl size n cells=>exact hd.elim
theorem mD {w : World} {B f : Nat} {k : IntKind} {n : Int} (h : (Lit.int k n).wf = true) : Own w B (f + 1) (.int k n) (.int k n) []:=⟨⟨rfl,h⟩,rfl⟩
theorem Ml {w : World} {B f : Nat} {b : Bool} : Own w B (f + 1) (.bool b) (.bool b) []:=⟨rfl,rfl⟩
theorem lH {w : World} {B f : Nat} {s : ByteArray} (h : s.size ≤ maxLen) : Own w B (f + 1) (.string s) (.str s) []:=⟨⟨rfl,h⟩,rfl⟩
def aH (w : World) (f : Nat) (vs : List Value) (ds : List C) : Prop:=vs.length = ds.length ∧ ∀ (m : Nat) (u : Value) (d : C),vs[m]? = some u → ds[m]? = some d → bf w f u d
def bq (w : World) (B f : Nat) (vs : List Value) (ds : List C) (F : List Nat) : Prop:=
  vs.length = ds.length ∧ ∃ Fs : List (List Nat),Fs.length = ds.length ∧ F = Fs.flatten ∧ ∀ (m : Nat) (u : Value) (d : C) (Fm : List Nat),vs[m]? = some u → ds[m]? = some d → Fs[m]? = some Fm → Own w B f u d Fm
theorem aH.kept {w w' : World} {f : Nat} {vs : List Value} {ds : List C} (h : aH w f vs ds) (hk : ∀ g,g < w.heap.size → w'.heap[g]? = w.heap[g]?) : aH w' f vs ds:=
  ⟨h.1,fun m u d hu hd=>bf.kept hk (h.2 m u d hu hd)⟩
theorem aH.below {w w' : World} {f : Nat} {vs : List Value} {ds : List C} (h : aH w f vs ds) (hb : Below w.heap.size w w') : aH w' f vs ds:=h.kept hb.block
theorem aH.deeper {w : World} {f f' : Nat} {vs : List Value} {ds : List C} (h : aH w f vs ds) (hf : f ≤ f') : aH w f' vs ds:=⟨h.1,fun m u d hu hd=>(h.2 m u d hu hd).deeper hf⟩
theorem bq.lies {w : World} {B f : Nat} {vs : List Value} {ds : List C} {F : List Nat} (h : bq w B f vs ds F) : aH w f vs ds:=by
  obtain ⟨h1,Fs,h2,rfl,h3⟩:=h;refine ⟨h1,fun m u d hu hd=>?_⟩;have hm : m < ds.length:=(List.getElem?_eq_some_iff.1 hd).1;exact (h3 m u d _ hu hd (List.getElem?_eq_getElem (by omega))).lies
theorem bq.range {w : World} {B f : Nat} {vs : List Value} {ds : List C} {F : List Nat} (h : bq w B f vs ds F) : ∀ x ∈ F,B ≤ x ∧ x < w.heap.size:=by
  obtain ⟨h1,Fs,h2,rfl,h3⟩:=h;intro x hx;obtain ⟨Fm,nM,hxm⟩:=List.mem_flatten.1 hx;obtain ⟨m,hm,rfl⟩:=List.getElem_of_mem nM;exact (h3 m _ _ _ (List.getElem?_eq_getElem (by omega)) (List.getElem?_eq_getElem (by omega)) (List.getElem?_eq_getElem hm)).range x hxm
theorem bq.kept {w w' : World} {B f : Nat} {vs : List Value} {ds : List C} {F : List Nat} (hk : ∀ x ∈ F,w'.heap[x]? = w.heap[x]?) (h : bq w B f vs ds F) : bq w' B f vs ds F:=by
  obtain ⟨h1,Fs,h2,rfl,h3⟩:=h;exact ⟨h1,Fs,h2,rfl,fun m u d Fm hu hd hF=>(h3 m u d Fm hu hd hF).kept (fun x hx=>hk x (List.mem_flatten.2 ⟨Fm,List.mem_of_getElem? hF,hx⟩))⟩
theorem bq.below {w w' : World} {B f : Nat} {vs : List Value} {ds : List C} {F : List Nat} (h : bq w B f vs ds F) (hb : Below w.heap.size w w') : bq w' B f vs ds F:=
  bq.kept (fun x hx=>hb.block x (h.range x hx).2) h
theorem bq.lower {w : World} {B B' f : Nat} {vs : List Value} {ds : List C} {F : List Nat} (h : bq w B f vs ds F) (hB : B' ≤ B) : bq w B' f vs ds F:=by
  obtain ⟨h1,Fs,h2,rfl,h3⟩:=h;exact ⟨h1,Fs,h2,rfl,fun m u d Fm hu hd hF=>(h3 m u d Fm hu hd hF).lower hB⟩
theorem bq.deeper {w : World} {B f f' : Nat} {vs : List Value} {ds : List C} {F : List Nat} (h : bq w B f vs ds F) (hf : f ≤ f') : bq w B f' vs ds F:=by
  obtain ⟨h1,Fs,h2,rfl,h3⟩:=h;exact ⟨h1,Fs,h2,rfl,fun m u d Fm hu hd hF=>(h3 m u d Fm hu hd hF).deeper hf⟩
theorem bq.nil {w : World} {B f : Nat} : bq w B f [] [] []:=⟨rfl,[],rfl,rfl,fun m u d Fm hu=>by simp at hu⟩
theorem bq.cons {w : World} {B f : Nat} {v : Value} {d : C} {G : List Nat} {vs : List Value} {ds : List C} {F : List Nat} (h : Own w B f v d G) (hr : bq w B f vs ds F) : bq w B f (v :: vs) (d :: ds) (G ++ F):=by
  obtain ⟨h1,Fs,h2,rfl,h3⟩:=hr;refine ⟨by simp [h1],G :: Fs,by simp [h2],by simp,fun m u d' Fm hu hd hF=>?_⟩;cases m with
  | zero=>
    simp at hu hd hF;subst hu hd hF;exact h
  | succ m=>exact h3 m u d' Fm (by simpa using hu) (by simpa using hd) (by simpa using hF)
theorem bq.bO {w : World} {B f : Nat} {vs : List Value} {d : C} {ds : List C} {F : List Nat} (h : bq w B f vs (d :: ds) F) : ∃ v vs' G F',vs = v :: vs' ∧ F = G ++ F' ∧ Own w B f v d G ∧ bq w B f vs' ds F':=by
  obtain ⟨h1,Fs,h2,rfl,h3⟩:=h;cases vs with
  | nil=>simp at h1
  | cons v vs=>
    cases Fs with
    | nil=>simp at h2
    | cons G Fs=>
      refine ⟨v,vs,G,Fs.flatten,rfl,by simp,h3 0 v d G rfl rfl rfl,by simpa using h1,Fs,by simpa using h2,rfl,fun m u d' Fm hu hd hF=>?_⟩;exact h3 (m + 1) u d' Fm (by simpa using hu) (by simpa using hd) (by simpa using hF)
theorem bq.nO {w : World} {B f : Nat} {vs : List Value} {F : List Nat} (h : bq w B f vs [] F) : vs = [] ∧ F = []:=by
  obtain ⟨h1,Fs,h2,rfl,h3⟩:=h;have e1 : vs = []:=List.eq_nil_of_length_eq_zero (by simpa using h1);have e2 : Fs = []:=List.eq_nil_of_length_eq_zero (by simpa using h2);subst e1 e2;exact ⟨rfl,rfl⟩
theorem aH.nil {w : World} {f : Nat} : aH w f [] []:=⟨rfl,fun m u d hu=>by simp at hu⟩
theorem aH.cons {w : World} {f : Nat} {v : Value} {d : C} {vs : List Value} {ds : List C} (h : bf w f v d) (hr : aH w f vs ds) : aH w f (v :: vs) (d :: ds):=by
  refine ⟨by simp [hr.1],fun m u d' hu hd=>?_⟩;cases m with
  | zero=>
    simp at hu hd;subst hu hd;exact h
  | succ m=>exact hr.2 m u d' (by simpa using hu) (by simpa using hd)
theorem aH.bO {w : World} {f : Nat} {vs : List Value} {d : C} {ds : List C} (h : aH w f vs (d :: ds)) : ∃ v vs',vs = v :: vs' ∧ bf w f v d ∧ aH w f vs' ds:=by
  cases vs with
  | nil=>have:=h.1; simp at this
  | cons v vs=>exact ⟨v,vs,rfl,h.2 0 v d rfl rfl,by simpa using h.1,fun m u d' hu hd=>h.2 (m + 1) u d' (by simpa using hu) (by simpa using hd)⟩
theorem aH.nO {w : World} {f : Nat} {vs : List Value} (h : aH w f vs []) : vs = []:=List.eq_nil_of_length_eq_zero h.1
def dx (w : World) (B f : Nat) (e : TypeId) (size : Nat) (v : Value) (n : Nat) (cells : List C) : Prop:=
  ∃ xs F,w.ownsRow B e size v n xs ∧ cells.length = n * size ∧ bq w B f xs cells F ∧ F.Nodup ∧ ∀ x ∈ F,v.ownBlock ≠ some x
theorem dx.nil (w : World) (B f : Nat) (e : TypeId) (size : Nat) : dx w B f e size (.slice none 0 0) 0 []:=
  ⟨[],[],World.ownsRow_nil _ _ _ _,by simp,bq.nil,List.nodup_nil,fun x hx=>by cases hx⟩
theorem dx.GV {w : World} {B f g : Nat} {e : TypeId} {size : Nat} (h : w.ownsRow B e size (.slice (some ⟨g,0,none⟩) 0 0) 0 []) : dx w B f e size (.slice (some ⟨g,0,none⟩) 0 0) 0 []:=
  ⟨[],[],h,by simp,bq.nil,List.nodup_nil,fun x hx=>by cases hx⟩
theorem dx.below {w w' : World} {B f : Nat} {e : TypeId} {size : Nat} {v : Value} {n : Nat} {cells : List C} (h : dx w B f e size v n cells) (hb : Below w.heap.size w w') : dx w' B f e size v n cells:=by
  obtain ⟨xs,F,h1,h2,h3,h4,h5⟩:=h
  refine ⟨xs,F,h1.kept (aR hb none) (by
    by_cases hv : v.ownBlock = none
    · exact .inl hv
    · exact .inr hv),h2,h3.below hb,h4,h5⟩
theorem dx.grow {w w' : World} {B f : Nat} {e : TypeId} {size : Nat} {v v' : Value} {n m : Nat} {xs news : List Value} {cells ds : List C} {F G : List Nat}
    (hc : cells.length = n * size) (ho : bq w B f xs cells F) (hnd : F.Nodup) (hv : ∀ x ∈ F,v.ownBlock ≠ some x)
    (hd : ds.length = m * size) (hn : bq w B f news ds G) (xK : G.Nodup) (XF : ∀ x ∈ F,x ∉ G) (VK : ∀ x ∈ G,v.ownBlock ≠ some x)
    (hown : w'.ownsRow B e size v' (n + m) (xs ++ news)) (hg : w.grownBy w' v.ownBlock) (hat : v'.ownBlock = v.ownBlock ∨ v'.ownBlock = some w.heap.size) : dx w' B f e size v' (n + m) (cells ++ ds):=by
  have k1 : ∀ x ∈ F,w'.heap[x]? = w.heap[x]?:=fun x hx=>hg.block x (ho.range x hx).2 (fun e=>hv x hx e.symm);have k2 : ∀ x ∈ G,w'.heap[x]? = w.heap[x]?:=fun x hx=>hg.block x (hn.range x hx).2 (fun e=>VK x hx e.symm);have ho':=bq.kept k1 ho;have hn':=bq.kept k2 hn;refine ⟨xs ++ news,F ++ G,hown,by rw [List.length_append,hc,hd,Nat.add_mul],?_,List.nodup_append.2 ⟨hnd,xK,fun a ha b hb e=>XF a ha (by rw [e]; exact hb)⟩,fun x hx=>?_⟩
  · obtain ⟨h1,Fs,h2,rfl,h3⟩:=ho';obtain ⟨j1,Gs,j2,rfl,j3⟩:=hn';refine ⟨by simp [h1,j1],Fs ++ Gs,by simp [h2,j2],by simp,fun j u d Fm hu hd hF=>?_⟩;by_cases hj : j < cells.length
    · rw [List.getElem?_append_left (by omega)] at hu hd hF;exact h3 j u d Fm hu hd hF
    · rw [List.getElem?_append_right (by omega)] at hu hd hF;rw [h1] at hu;rw [h2] at hF;exact j3 _ u d Fm hu hd hF
  · rcases List.mem_append.1 hx with hx | hx
    · rcases hat with h | h
      · rw [h]; exact hv x hx
      · rw [h]; intro e; injection e with e; have:=(ho.range x hx).2; omega
    · rcases hat with h | h
      · rw [h]; exact VK x hx
      · rw [h]; intro e; injection e with e; have:=(hn.range x hx).2; omega
theorem dx.own {w : World} {B f : Nat} {e : TypeId} {size : Nat} {v : Value} {n : Nat} {cells : List C} (h : dx w B f e size v n cells) : ∃ F,Own w B (f + 1) v (.sl size n cells) F ∧ F.Nodup ∧ ∀ x ∈ F,B ≤ x ∧ x < w.heap.size:=by
  obtain ⟨xs,F,h1,h2,⟨h3,Fs,h4,rfl,h5⟩,h6,h7⟩:=h;obtain ⟨F',hF',hc⟩:=yQ (B:=B) (B':=B) h1 (Nat.le_refl _) h2 h4 h5;refine ⟨F',hF',?_,hF'.range⟩;rcases hc with ⟨_,rfl⟩ | ⟨g,c,rfl,_,_,rfl⟩
  · exact List.nodup_nil
  · exact List.nodup_cons.2 ⟨fun hx=>h7 g hx rfl,h6⟩
def AU (e : TypeId) (w : World) (vs : List Value) (w' : World) : Prop:=Below w.heap.size w w' ∧ w'.heap[w.heap.size]? = some (.cells vs.toArray e (0,0))
theorem AU.below {e : TypeId} {w a b : World} {vs : List Value} (h : AU e w vs a) (k : Below a.heap.size a b) : AU e w vs b:=⟨h.1.trans (k.mono h.1.size),eX k (aX h.2) h.2⟩
theorem AU.drewN {e : TypeId} {w a : World} {vs : List Value} (h : AU e w vs a) (n : Nat) : AU e w vs (a.drewN n):=⟨below_drewN h.1 n,h.2⟩
theorem AU.new (e : TypeId) (w : World) (vs : List Value) : AU e w vs (w.alloc (.cells vs.toArray e)):=⟨(Below.refl _ _).alloc (Nat.le_refl _) _,heap_alloc_new w _⟩
theorem AU.cell {e : TypeId} {w a : World} {vs : List Value} (h : AU e w vs a) {j : Nat} {u : Value} (hj : vs[j]? = some u) : a.cell? ⟨w.heap.size,j,none⟩ = some u:=by
  rw [cell_of_row a _ j _ _ _ h.2];simpa using hj
end Go.Proofs.YtcfbkfmkjggcdaaGreatDoor
