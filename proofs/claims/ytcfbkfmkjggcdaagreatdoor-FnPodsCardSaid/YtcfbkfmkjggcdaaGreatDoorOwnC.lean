/- What a value holds in memory of its own, owned cell by cell (two slices may lie in one block beside one another). Over any program. -/
import Derived.Test.YtcfbkfmkjggcdaaGreatDoorGA4
namespace Go.Proofs.YtcfbkfmkjggcdaaGreatDoor
open Go Go.RowKit
set_option linter.unusedVariables false
abbrev Cl:=Nat × Nat
def rO (g o n : Nat) : List Cl:=(List.range n).map (fun m=>(g,o + m))
def KZ (F : List Cl) : List Nat:=F.map Prod.fst
theorem jN {g o n : Nat} {p : Cl} : p ∈ rO g o n ↔ p.1 = g ∧ o ≤ p.2 ∧ p.2 < o + n:=by
  unfold rO;rw [List.mem_map];constructor
  · rintro ⟨m,hm,rfl⟩;have:=List.mem_range.1 hm;exact ⟨rfl,Nat.le_add_right _ _,by simp; omega⟩
  · rintro ⟨h1,h2,h3⟩;exact ⟨p.2 - o,List.mem_range.2 (by omega),by rw [← h1,Nat.add_sub_cancel' h2]⟩
theorem qd (g o n : Nat) : (rO g o n).Nodup:=by
  unfold rO;refine List.Pairwise.map _ (fun a b h e=>h ?_) List.nodup_range;injection e with _ e;omega
theorem qg {F : List Cl} {k : Nat} : k ∈ KZ F ↔ ∃ m,(k,m) ∈ F:=by
  unfold KZ;rw [List.mem_map];constructor
  · rintro ⟨p,hp,rfl⟩; exact ⟨p.2,hp⟩
  · rintro ⟨m,hm⟩; exact ⟨_,hm,rfl⟩
def dG (w : World) (B : Nat) : Nat → Value → C → List Cl → Prop
  | 0,_,_,_=>False
  | _ + 1,v,.int k n,F=>(v = .int k n ∧ (Lit.int k n).wf = true) ∧ F = []
  | _ + 1,v,.bool b,F=>v = .bool b ∧ F = []
  | _ + 1,v,.str s,F=>(v = .string s ∧ s.size ≤ maxLen) ∧ F = []
  | f + 1,v,.sl size n cells,F=>cells.length = n * size ∧ ∃ A c,v = .slice A n c ∧ n ≤ c ∧ c ≤ maxLen ∧ ((n = 0 ∧ F = []) ∨
      ∃ (g o : Nat) (Fs : List (List Cl)),A = some ⟨g,o,none⟩ ∧ B ≤ g ∧ g < w.heap.size ∧ F = rO g o cells.length ++ Fs.flatten ∧ Fs.length = cells.length ∧
        ∀ (m : Nat) (d : C) (Fm : List Cl),cells[m]? = some d → Fs[m]? = some Fm → ∃ u : Value,w.cell? ⟨g,o + m,none⟩ = some u ∧ w.frozen? ⟨g,o + m,none⟩ = false ∧ dG w B f u d Fm)
def fQ (w w' : World) (p : Cl) : Prop:=w'.cell? ⟨p.1,p.2,none⟩ = w.cell? ⟨p.1,p.2,none⟩ ∧ w'.frozen? ⟨p.1,p.2,none⟩ = w.frozen? ⟨p.1,p.2,none⟩
structure nu (F : List Cl) (w w' : World) : Prop where
  os : w'.os = w.os
  tape : w'.tape = w.tape
  output : w'.output = w.output
  size : w.heap.size ≤ w'.heap.size
  cell : ∀ p : Cl,p.1 < w.heap.size → p ∉ F → fQ w w' p
  block : ∀ k,k < w.heap.size → k ∉ KZ F → w'.heap[k]? = w.heap[k]?
theorem fQ.of_block {w w' : World} {p : Cl} (h : w'.heap[p.1]? = w.heap[p.1]?) : fQ w w' p:=⟨World.cell?_of_block h,World.frozen?_of_block h⟩
theorem fQ.trans {a b c : World} {p : Cl} (h : fQ a b p) (k : fQ b c p) : fQ a c p:=⟨k.1.trans h.1,k.2.trans h.2⟩
theorem nu.of_below {F : List Cl} {a b : World} (h : Below a.heap.size a b) : nu F a b:=⟨h.os,h.tape,h.output,h.size,fun p hp _=>fQ.of_block (h.block _ hp),fun i hi _=>h.block i hi⟩
theorem nu.blocks {F : List Cl} {a b : World} (h : nu F a b) : yI (KZ F) a b:=⟨h.os,h.tape,h.output,h.size,h.block⟩
theorem nu.below {F : List Cl} {B : Nat} {a b c : World} (h : Below B a b) (k : nu F b c) (hB : B ≤ b.heap.size) (hF : ∀ x ∈ F,B ≤ x.1) : Below B a c:=
  yI.below h k.blocks hB (fun x hx=>let ⟨m,hm⟩:=qg.1 hx; hF _ hm)
theorem dG.deeper {w : World} {B : Nat} : ∀ {f f' : Nat} {v : Value} {d : C} {F : List Cl},f ≤ f' → dG w B f v d F → dG w B f' v d F
  | 0,_,_,_,_,_,h=>h.elim
  | f + 1,0,_,_,_,hf,_=>absurd hf (by omega)
  | f + 1,f' + 1,v,.int k n,_,_,h=>h
  | f + 1,f' + 1,v,.bool b,_,_,h=>h
  | f + 1,f' + 1,v,.str s,_,_,h=>h
  | f + 1,f' + 1,v,.sl size n cells,F,hf,h=>by
    obtain ⟨hl,A,c,h0,h1,h2,hc | ⟨g,o,Fs,hA,h3,h4,hF,h5,h6⟩⟩:=h
    · exact ⟨hl,A,c,h0,h1,h2,.inl hc⟩
    · exact ⟨hl,A,c,h0,h1,h2,.inr ⟨g,o,Fs,hA,h3,h4,hF,h5,fun m d Fm hd nM=>let ⟨u,hu,hz,ho⟩:=h6 m d Fm hd nM; ⟨u,hu,hz,dG.deeper (by omega) ho⟩⟩⟩
theorem dG.range {w : World} {B : Nat} : ∀ {f : Nat} {v : Value} {d : C} {F : List Cl},dG w B f v d F → ∀ x ∈ F,B ≤ x.1 ∧ x.1 < w.heap.size
  | 0,_,_,_,h=>h.elim
  | f + 1,v,.int k n,F,h=>by obtain ⟨_,rfl⟩:=h; simp
  | f + 1,v,.bool b,F,h=>by obtain ⟨_,rfl⟩:=h; simp
  | f + 1,v,.str s,F,h=>by obtain ⟨_,rfl⟩:=h; simp
  | f + 1,v,.sl size n cells,F,h=>by
    obtain ⟨hl,A,c,h0,h1,h2,⟨_,rfl⟩ | ⟨g,o,Fs,rfl,h3,h4,rfl,h5,h6⟩⟩:=h
    · simp
    · intro x hx;rcases List.mem_append.1 hx with hx | hx
      · obtain ⟨e,_⟩:=jN.1 hx;rw [e];exact ⟨h3,h4⟩
      · obtain ⟨Fm,nM,hxm⟩:=List.mem_flatten.1 hx;obtain ⟨m,hm,rfl⟩:=List.getElem_of_mem nM;have hmc : m < cells.length:=(by omega);obtain ⟨u,_,_,ho⟩:=h6 m cells[m] _ (List.getElem?_eq_getElem hmc) (List.getElem?_eq_getElem hm);exact dG.range ho x hxm
theorem dG.ranges {w : World} {B f : Nat} {v : Value} {d : C} {F : List Cl} (h : dG w B f v d F) : ∀ x ∈ KZ F,B ≤ x ∧ x < w.heap.size:=fun x hx=>by
  obtain ⟨m,hm⟩:=qg.1 hx;exact h.range _ hm
theorem dG.kept {w w' : World} {B : Nat} (hs : w.heap.size ≤ w'.heap.size) : ∀ {f : Nat} {v : Value} {d : C} {F : List Cl},(∀ x ∈ F,fQ w w' x) → dG w B f v d F → dG w' B f v d F
  | 0,_,_,_,_,h=>h.elim
  | f + 1,v,.int k n,F,_,h=>h
  | f + 1,v,.bool b,F,_,h=>h
  | f + 1,v,.str s,F,_,h=>h
  | f + 1,v,.sl size n cells,F,hk,h=>by
    obtain ⟨hl,A,c,h0,h1,h2,hc | ⟨g,o,Fs,rfl,h3,h4,rfl,h5,h6⟩⟩:=h
    · exact ⟨hl,A,c,h0,h1,h2,.inl hc⟩
    · refine ⟨hl,_,c,h0,h1,h2,.inr ⟨g,o,Fs,rfl,h3,Nat.lt_of_lt_of_le h4 hs,rfl,h5,fun m d Fm hd nM=>?_⟩⟩;obtain ⟨u,hu,hz,ho⟩:=h6 m d Fm hd nM;have hm : m < cells.length:=(List.getElem?_eq_some_iff.1 hd).1;obtain ⟨k1,k2⟩:=hk (g,o + m) (List.mem_append_left _ (jN.2 ⟨rfl,Nat.le_add_right _ _,by simp; omega⟩));exact ⟨u,k1.trans hu,k2.trans hz,dG.kept hs (fun x hx=>hk x (List.mem_append_right _ (List.mem_flatten.2 ⟨Fm,List.mem_of_getElem? nM,hx⟩))) ho⟩
theorem dG.below {w w' : World} {B : Nat} {f : Nat} {v : Value} {d : C} {F : List Cl} (h : dG w B f v d F) (hb : Below w.heap.size w w') : dG w' B f v d F:=
  h.kept hb.size (fun x hx=>fQ.of_block (hb.block x.1 (h.range x hx).2))
theorem dG.lower {w : World} {B B' : Nat} : ∀ {f : Nat} {v : Value} {d : C} {F : List Cl},dG w B f v d F → B' ≤ B → dG w B' f v d F
  | 0,_,_,_,h,_=>h.elim
  | f + 1,v,.int k n,F,h,_=>h
  | f + 1,v,.bool b,F,h,_=>h
  | f + 1,v,.str s,F,h,_=>h
  | f + 1,v,.sl size n cells,F,h,hB=>by
    obtain ⟨hl,A,c,h0,h1,h2,hc | ⟨g,o,Fs,hA,h3,h4,hF,h5,h6⟩⟩:=h
    · exact ⟨hl,A,c,h0,h1,h2,.inl hc⟩
    · exact ⟨hl,A,c,h0,h1,h2,.inr ⟨g,o,Fs,hA,Nat.le_trans hB h3,h4,hF,h5,fun m d Fm hd nM=>let ⟨u,hu,hz,ho⟩:=h6 m d Fm hd nM; ⟨u,hu,hz,dG.lower ho hB⟩⟩⟩
theorem dG.lies {w : World} {B : Nat} : ∀ {f : Nat} {v : Value} {d : C} {F : List Cl},dG w B f v d F → bf w f v d
  | 0,_,_,_,h=>h.elim
  | f + 1,v,.int k n,F,h=>h.1
  | f + 1,v,.bool b,F,h=>h.1
  | f + 1,v,.str s,F,h=>h.1
  | f + 1,v,.sl size n cells,F,h=>by
    obtain ⟨hl,A,c,rfl,h1,h2,⟨rfl,_⟩ | ⟨g,o,Fs,rfl,h3,h4,rfl,h5,h6⟩⟩:=h
    · exact ⟨A,c,rfl,h1,h2,hl,fun h=>absurd h (by omega)⟩
    · refine ⟨_,c,rfl,h1,h2,hl,fun _=>⟨g,o,rfl,h4,fun m d hd=>?_⟩⟩;have hm : m < cells.length:=(List.getElem?_eq_some_iff.1 hd).1;obtain ⟨u,hu,_,ho⟩:=h6 m d _ hd (List.getElem?_eq_getElem (by omega));exact ⟨u,hu,dG.lies ho⟩
theorem dG.flat {w : World} {B f : Nat} {v : Value} {d : C} {F : List Cl} (h : dG w B f v d F) (hd : d.flat) : F = []:=by
  cases f with
  | zero=>exact h.elim
  | succ f=>
    cases d with
    | int k n=>exact h.2
    | bool b=>exact h.2
    | str s=>exact h.2
    | sl size n cells=>exact hd.elim
theorem lX {w : World} {B f : Nat} {k : IntKind} {n : Int} (h : (Lit.int k n).wf = true) : dG w B (f + 1) (.int k n) (.int k n) []:=⟨⟨rfl,h⟩,rfl⟩
theorem rP {w : World} {B f : Nat} {s : ByteArray} (h : s.size ≤ maxLen) : dG w B (f + 1) (.string s) (.str s) []:=⟨⟨rfl,h⟩,rfl⟩
theorem dG.eD {w : World} {B f : Nat} {v : Value} {n size : Nat} {cells : List C} {F : List Cl} (h : dG w B f v (.sl size n cells) F) : ∃ A c,v = .slice A n c ∧ n ≤ c ∧ c ≤ maxLen:=by
  cases f with
  | zero=>exact h.elim
  | succ f=>
    obtain ⟨hl,A',c',h0,h1,h2,_⟩:=h;exact ⟨A',c',h0,h1,h2⟩
def bF (w : World) (B f : Nat) (vs : List Value) (ds : List C) (F : List Cl) : Prop:=
  vs.length = ds.length ∧ ∃ Fs : List (List Cl),Fs.length = ds.length ∧ F = Fs.flatten ∧ ∀ (m : Nat) (u : Value) (d : C) (Fm : List Cl),vs[m]? = some u → ds[m]? = some d → Fs[m]? = some Fm → dG w B f u d Fm
theorem bF.nil {w : World} {B f : Nat} : bF w B f [] [] []:=⟨rfl,[],rfl,rfl,fun m u d Fm h=>by simp at h⟩
theorem bF.cons {w : World} {B f : Nat} {v : Value} {d : C} {F G : List Cl} {vs : List Value} {ds : List C} (h : dG w B f v d F) (k : bF w B f vs ds G) : bF w B f (v :: vs) (d :: ds) (F ++ G):=by
  obtain ⟨h1,Fs,h2,rfl,h3⟩:=k;refine ⟨by simp [h1],F :: Fs,by simp [h2],by simp,fun m u d' Fm hu hd hF=>?_⟩;cases m with
  | zero=>
    simp at hu hd hF;subst hu hd hF;exact h
  | succ m=>exact h3 m u d' Fm (by simpa using hu) (by simpa using hd) (by simpa using hF)
theorem bF.bO {w : World} {B f : Nat} {vs : List Value} {d : C} {ds : List C} {F : List Cl} (h : bF w B f vs (d :: ds) F) : ∃ v us G F',vs = v :: us ∧ F = G ++ F' ∧ dG w B f v d G ∧ bF w B f us ds F':=by
  obtain ⟨h1,Fs,h2,rfl,h3⟩:=h;cases vs with
  | nil=>simp at h1
  | cons v us=>
    cases Fs with
    | nil=>simp at h2
    | cons G Fs=>exact ⟨v,us,G,Fs.flatten,rfl,by simp,h3 0 v d G rfl rfl rfl,by simpa using h1,Fs,by simpa using h2,rfl,fun m u d' Fm hu hd hF=>h3 (m + 1) u d' Fm (by simpa using hu) (by simpa using hd) (by simpa using hF)⟩
theorem bF.nO {w : World} {B f : Nat} {vs : List Value} {F : List Cl} (h : bF w B f vs [] F) : vs = [] ∧ F = []:=by
  obtain ⟨h1,Fs,h2,rfl,_⟩:=h;have e1 : vs = []:=List.eq_nil_of_length_eq_zero (by simpa using h1);have e2 : Fs = []:=List.eq_nil_of_length_eq_zero (by simpa using h2);subst e1 e2;exact ⟨rfl,rfl⟩
theorem bF.append {w : World} {B f : Nat} {xs ys : List Value} {ds es : List C} {F G : List Cl} (h : bF w B f xs ds F) (k : bF w B f ys es G) : bF w B f (xs ++ ys) (ds ++ es) (F ++ G):=by
  obtain ⟨h1,Fs,h2,rfl,h3⟩:=h;obtain ⟨j1,Gs,j2,rfl,j3⟩:=k;refine ⟨by simp [h1,j1],Fs ++ Gs,by simp [h2,j2],by simp,fun j u d Fm hu hd hF=>?_⟩;by_cases hj : j < ds.length
  · rw [List.getElem?_append_left (by omega)] at hu hd hF;exact h3 j u d Fm hu hd hF
  · rw [List.getElem?_append_right (by omega)] at hu hd hF;rw [h1] at hu;rw [h2] at hF;exact j3 _ u d Fm hu hd hF
theorem bF.lies {w : World} {B f : Nat} {vs : List Value} {ds : List C} {F : List Cl} (h : bF w B f vs ds F) : aH w f vs ds:=by
  obtain ⟨h1,Fs,h2,rfl,h3⟩:=h;refine ⟨h1,fun m u d hu hd=>?_⟩;have hm : m < ds.length:=(List.getElem?_eq_some_iff.1 hd).1;exact (h3 m u d _ hu hd (List.getElem?_eq_getElem (by omega))).lies
theorem bF.range {w : World} {B f : Nat} {vs : List Value} {ds : List C} {F : List Cl} (h : bF w B f vs ds F) : ∀ x ∈ F,B ≤ x.1 ∧ x.1 < w.heap.size:=by
  obtain ⟨h1,Fs,h2,rfl,h3⟩:=h;intro x hx;obtain ⟨Fm,nM,hxm⟩:=List.mem_flatten.1 hx;obtain ⟨m,hm,rfl⟩:=List.getElem_of_mem nM;exact (h3 m _ _ _ (List.getElem?_eq_getElem (by omega)) (List.getElem?_eq_getElem (by omega)) (List.getElem?_eq_getElem hm)).range x hxm
theorem bF.kept {w w' : World} {B f : Nat} {vs : List Value} {ds : List C} {F : List Cl} (hs : w.heap.size ≤ w'.heap.size) (hk : ∀ x ∈ F,fQ w w' x) (h : bF w B f vs ds F) : bF w' B f vs ds F:=by
  obtain ⟨h1,Fs,h2,rfl,h3⟩:=h;exact ⟨h1,Fs,h2,rfl,fun m u d Fm hu hd hF=>(h3 m u d Fm hu hd hF).kept hs (fun x hx=>hk x (List.mem_flatten.2 ⟨Fm,List.mem_of_getElem? hF,hx⟩))⟩
theorem bF.below {w w' : World} {B f : Nat} {vs : List Value} {ds : List C} {F : List Cl} (h : bF w B f vs ds F) (hb : Below w.heap.size w w') : bF w' B f vs ds F:=
  h.kept hb.size (fun x hx=>fQ.of_block (hb.block x.1 (h.range x hx).2))
theorem bF.lower {w : World} {B B' f : Nat} {vs : List Value} {ds : List C} {F : List Cl} (h : bF w B f vs ds F) (hB : B' ≤ B) : bF w B' f vs ds F:=by
  obtain ⟨h1,Fs,h2,rfl,h3⟩:=h;exact ⟨h1,Fs,h2,rfl,fun m u d Fm hu hd hF=>(h3 m u d Fm hu hd hF).lower hB⟩
theorem IB {α : Type} {n : Nat} {P : Nat → List α → Prop} (h : ∀ m,m < n → ∃ G,P m G) : ∃ Gs : List (List α),Gs.length = n ∧ ∀ m G,Gs[m]? = some G → P m G:=by
  induction n with
  | zero=>exact ⟨[],rfl,fun m G h=>by simp at h⟩
  | succ n ih=>
    obtain ⟨Gs,h1,h2⟩:=ih (fun m hm=>h m (by omega));obtain ⟨G,hG⟩:=h n (Nat.lt_succ_self _);refine ⟨Gs ++ [G],by simp [h1],fun m G' hm=>?_⟩;by_cases e : m < n
    · rw [List.getElem?_append_left (by omega)] at hm;exact h2 m G' hm
    · have : m = n:=(by have:=(List.getElem?_eq_some_iff.1 hm).1; simp at this; omega);subst this;rw [List.getElem?_append_right (by omega),h1] at hm;simp at hm;rw [← hm];exact hG
theorem Gm {Fs : List (List Nat)} {Gs : List (List Cl)} (hl : Gs.length = Fs.length) (hF : Fs.flatten.Nodup) (hG : ∀ (m : Nat) (G : List Cl),Gs[m]? = some G → G.Nodup ∧ ∀ Fm,Fs[m]? = some Fm → ∀ x ∈ G,x.1 ∈ Fm) :
    Gs.flatten.Nodup ∧ ∀ x ∈ Gs.flatten,x.1 ∈ Fs.flatten:=by
  induction Fs generalizing Gs with
  | nil=>
    have : Gs = []:=List.eq_nil_of_length_eq_zero hl;subst this;simp
  | cons a r ih=>
    cases Gs with
    | nil=>simp at hl
    | cons b s=>
      rw [List.flatten_cons] at hF;obtain ⟨h1,h2,h3⟩:=List.nodup_append.1 hF
      obtain ⟨k1,k2⟩:=ih (Gs:=s) (by simpa using hl) h2 (fun m G hm=>by
        have:=hG (m + 1) G (by simpa using hm);exact ⟨this.1,fun Fm nM=>this.2 Fm (by simpa using nM)⟩)
      obtain ⟨j1,j2⟩:=hG 0 b rfl;have j3:=j2 a rfl;rw [List.flatten_cons,List.flatten_cons];refine ⟨List.nodup_append.2 ⟨j1,k1,fun x hx y hy e=>?_⟩,fun x hx=>?_⟩
      · exact h3 x.1 (j3 x hx) y.1 (k2 y hy) (by rw [e])
      · rcases List.mem_append.1 hx with hx | hx
        · exact List.mem_append_left _ (j3 x hx)
        · exact List.mem_append_right _ (k2 x hx)
theorem Own.toC {w : World} {B : Nat} : ∀ {f : Nat} {v : Value} {d : C} {F : List Nat},Own w B f v d F → F.Nodup → ∃ G : List Cl,dG w B f v d G ∧ G.Nodup ∧ ∀ x ∈ G,x.1 ∈ F
  | 0,_,_,_,h,_=>h.elim
  | f + 1,v,.int k n,F,h,_=>by obtain ⟨h,rfl⟩:=h; exact ⟨[],⟨h,rfl⟩,List.nodup_nil,fun x hx=>by simp at hx⟩
  | f + 1,v,.bool b,F,h,_=>by obtain ⟨h,rfl⟩:=h; exact ⟨[],⟨h,rfl⟩,List.nodup_nil,fun x hx=>by simp at hx⟩
  | f + 1,v,.str s,F,h,_=>by obtain ⟨h,rfl⟩:=h; exact ⟨[],⟨h,rfl⟩,List.nodup_nil,fun x hx=>by simp at hx⟩
  | f + 1,v,.sl size n cells,F,h,hnd=>by
    obtain ⟨hl,⟨rfl,rfl,rfl⟩ | ⟨g,c,cur,e,Fs,rfl,h1,h2,h3,h4,hz,rfl,h5,h6⟩⟩:=h
    · exact ⟨[],⟨hl,none,0,rfl,Nat.le_refl _,by simp [maxLen],.inl ⟨rfl,rfl⟩⟩,List.nodup_nil,fun x hx=>by simp at hx⟩
    · obtain ⟨hng,hnF⟩:=List.nodup_cons.1 hnd
      have hex : ∀ m,m < cells.length → ∃ G : List Cl,∃ u,w.cell? ⟨g,m,none⟩ = some u ∧ dG w B f u (cells.getD m (.bool true)) G ∧ G.Nodup ∧ ∀ Fm,Fs[m]? = some Fm → ∀ x ∈ G,x.1 ∈ Fm:=fun m hm=>by
        have nM : Fs[m]? = some (Fs[m]'(by omega)):=List.getElem?_eq_getElem (by omega);have hcm : cells[m]? = some cells[m]:=List.getElem?_eq_getElem hm;obtain ⟨u,hu,ho⟩:=h6 m _ _ hcm nM;obtain ⟨G,k1,k2,k3⟩:=Own.toC ho (GU hnF nM);refine ⟨G,u,by rw [cell_of_row w g m cur e (0,0) h4]; exact hu,by simpa [List.getD,hcm] using k1,k2,fun Fm hF=>?_⟩;rw [nM] at hF;injection hF with hF;rw [← hF];exact k3
      obtain ⟨Gs,e1,e2⟩:=IB hex;obtain ⟨n1,n2⟩:=Gm (by rw [e1,h5]) hnF (fun m G hm=>by obtain ⟨_,_,_,a,b⟩:=e2 m G hm; exact ⟨a,b⟩);refine ⟨rO g 0 cells.length ++ Gs.flatten,⟨hl,_,c,rfl,h1,h2,.inr ⟨g,0,Gs,rfl,h3,aX h4,rfl,e1,fun m d Fm hd nM=>?_⟩⟩,List.nodup_append.2 ⟨qd _ _ _,n1,fun x hx y hy e=>?_⟩,fun x hx=>?_⟩
      · obtain ⟨u,a1,a2,_,_⟩:=e2 m Fm nM;rw [Nat.zero_add];refine ⟨u,a1,frozen_of_row w g m cur e h4,?_⟩;simpa [List.getD,hd] using a2
      · subst e;obtain ⟨e,_⟩:=jN.1 hx;exact hng (e ▸ n2 x hy)
      · rcases List.mem_append.1 hx with hx | hx
        · obtain ⟨e,_⟩:=jN.1 hx;rw [e]; exact List.mem_cons_self
        · exact List.mem_cons_of_mem _ (n2 x hx)
end Go.Proofs.YtcfbkfmkjggcdaaGreatDoor
