/- Merged: CompN OnceN ElR. -/
import Derived.Test.YtcfbkfmkjggcdaaGreatDoorGA3
import Derived.Test.YtcfbkfmkjggcdaaGreatDoorGA4
import Derived.Test.YtcfbkfmkjggcdaaGreatDoorGA16
import Derived.Test.YtcfbkfmkjggcdaaGreatDoorGA1
import Derived.Test.YtcfbkfmkjggcdaaGreatDoorGA29
import Derived.Laws.Cover1
import Derived.Lib.SliceRun
import Derived.Test.YtcfbkfmkjggcdaaGreatDoorGA18
import Derived.Test.YtcfbkfmkjggcdaaGreatDoorShelf
import Derived.Test.YtcfbkfmkjggcdaaGreatDoorGA11
set_option linter.unusedVariables false
namespace Go.Proofs.YtcfbkfmkjggcdaaGreatDoor
namespace need
open Go.ChangeShapes Go.WideShapes Go.ChangeAt Go.RowKit ty lab dedup
theorem TryzsizeNeedC : (Tryz.prog.info? 69).map (·.size) = some 3:=by kernel_rfl
def CP (w : World) (b : Nat) : Prop:=w.cell? ⟨b,0,none⟩ = some (.func (.func 100) #[] #[])
set_option maxRecDepth 100000 in
set_option maxHeartbeats 4000000 in
theorem Gt (x y : Need) (f1 f2 : Nat) (us vs : List Value) (b : Nat) (w : World) (h1 : aH w f1 us x.row) (h2 : aH w f2 vs y.row) (h : CP w b) :
    Calls Tryz.prog 168 #[.agg us.toArray,.agg vs.toArray,.pointer (some ⟨b,0,none⟩)] w fun e w'=>e = .returned (.bool (yes (x = y))) ∧ Below w.heap.size w w':=by
  have h0 : (qJ x y == 0) = yes (x = y):=(by rw [← Cz]; by_cases h : qJ x y = 0 <;> simp [h]);rw [← h0];clear h0;obtain ⟨A1,c1,rfl,_⟩:=Need.opened h1;obtain ⟨A2,c2,rfl,_⟩:=Need.opened h2;have HB:=Lib.hid (oQ.new 69 w [.string x.key,.int .i64 x.op,.slice A1 x.values.length c1] [.string y.key,.int .i64 y.op,.slice A2 y.values.length c2]);have HC:=Lib.hid (fun w' (hb : Below w.heap.size w w')=>nk (Ea x y f1 f2 _ _ w' (h1.kept hb.block) (h2.kept hb.block)));have p0:=HB.out.cell1 (j:=0) rfl;have p1:=HB.out.cell1 (j:=1) rfl;have p2:=HB.out.cell1 (j:=2) rfl;have q0:=HB.out.fO (j:=0) rfl;have q1:=HB.out.fO (j:=1) rfl;have q2:=HB.out.fO (j:=2) rfl;have r0:=(HB.out.1.1.cell (World.block_lt_of_cell? _ _ h)).trans h;clear h1 h2 h;generalize qJ x y = r at HC ⊢;generalize x.key = k1 at p0 HC HB r0;generalize x.op = o1 at p1 HC HB r0;generalize x.values.length = n1 at p2 HC HB r0;generalize y.key = k2 at q0 HC HB r0;generalize y.op = o2 at q1 HC HB r0;generalize y.values.length = n2 at q2 HC HB r0;go_enter Tryz.func168,Tryz.ntmps168;go_wp2_with fail;refine (HC.out _ HB.out.1.1).mono ?_;rintro e x1 ⟨rfl,hb⟩;have G:=Lib.hid (HB.out.1.1.trans (hb.mono HB.out.1.1.size));clear hb;go_wp2_with fail;go_ret;exact ⟨rfl,G.out⟩
theorem u7 : ∀ (vs xs : List Value) (o : Nat),o + vs.length ≤ xs.length → pO xs o vs = xs.take o ++ vs ++ xs.drop (o + vs.length)
  | [],xs,o,_=>by simp [pO]
  | v :: r,xs,o,h=>by
    simp only [List.length_cons] at h;rw [pO,u7 r _ _ (by simp; omega),List.take_succ_eq_append_getElem (by simp; omega),List.take_set_of_le (Nat.le_refl _),List.getElem_set_self,List.drop_set_of_lt (by omega)];simp only [List.length_cons,List.append_assoc,List.cons_append,List.nil_append];rw [show o + 1 + r.length = o + (r.length + 1) by omega]
theorem CQ {α β : Type} {f : α → List β} {sz : Nat} (hf : ∀ a,(f a).length = sz) (l : List α) (k : Nat) (h : k ≤ l.length) : (l.flatMap f).take (k * sz) = (l.take k).flatMap f:=by
  have hl:=aM (f:=f) (sz:=sz) hf;have e : l.flatMap f = (l.take k).flatMap f ++ (l.drop k).flatMap f:=(by rw [← List.flatMap_append,List.take_append_drop]);have e2 : k * sz = ((l.take k).flatMap f).length:=(by rw [hl,List.length_take,Nat.min_eq_left h]);rw [e,e2,List.take_left]
theorem Lf {α β : Type} {f : α → List β} {sz : Nat} (hf : ∀ a,(f a).length = sz) (l : List α) (k : Nat) (h : k ≤ l.length) : (l.flatMap f).drop (k * sz) = (l.drop k).flatMap f:=by
  have hl:=aM (f:=f) (sz:=sz) hf;have e : l.flatMap f = (l.take k).flatMap f ++ (l.drop k).flatMap f:=(by rw [← List.flatMap_append,List.take_append_drop]);have e2 : k * sz = ((l.take k).flatMap f).length:=(by rw [hl,List.length_take,Nat.min_eq_left h]);rw [e,e2,List.drop_left]
theorem Lg {w : World} {B f g : Nat} (l : List (dS w B f g)) (k : Nat) (x : dS w B f g) (h : k < l.length) : pO (l.flatMap dS.us) (k * 3) x.us = (l.set k x).flatMap dS.us:=by
  rw [u7 _ _ _ (by rw [sW,x.len]; omega),x.len,CQ dS.len l k (by omega),show k * 3 + 3 = (k + 1) * 3 by omega,Lf dS.len l (k + 1) (by omega),List.set_eq_take_append_cons_drop,if_pos h,List.flatMap_append,List.flatMap_cons,List.append_assoc]
theorem ow {w0 w : World} {B B' f g c : Nat} {l : List (dS w0 B f g)} {T : TypeId} {n : Nat} (h : w.ownsRow B' T 3 (.slice (some ⟨g,0,none⟩) n c) n (l.flatMap dS.us)) {k : Nat} (hk : k < l.length) (hn : l.length = n) {i : Nat} (hi : i < 3) {u : Value} (hu : l[k].us[i]? = some u) : w.cell? ⟨g,k * 3 + i,none⟩ = some u:=by
  rw [h.cellAt (k * 3 + i) (by omega),gq dS.len l k i _ (List.getElem?_eq_getElem hk) hi];exact hu
theorem sZ {w0 w' : World} {B f g : Nat} (hgr : w0.grownBy w' (some g)) (e : dS w0 B f g) : aH w' f e.us e.x.row:=
  e.kept hgr.size fun x hx hlt=>hgr.block x hlt (fun e=>hx (by injection e))
theorem YR {w0 : World} {B f g : Nat} (e : dS w0 B f g) {u0 u1 u2 : Value} (h : e.us = [u0,u1,u2]) : (#[u0,u1,u2]).all (·.oneCell') = true:=by
  have h1:=e.own.ones;rw [h] at h1;simp [h1 u0 (by simp),h1 u1 (by simp),h1 u2 (by simp)]
def wm {w0 : World} {B f g : Nat} (l : List (dS w0 B f g)) (c : Nat) (w : World) (e : Ending) (w' : World) : Prop:=
  ∃ d : List (dS w0 B f g),d = iy dS.x l l.length ∧ e = .returned (.slice (some ⟨g,0,none⟩) d.length c) ∧ w'.ownsRow B 69 3 (.slice (some ⟨g,0,none⟩) d.length c) d.length (d.flatMap dS.us) ∧ w.grownBy w' (some g)
set_option maxRecDepth 100000 in
set_option maxHeartbeats 32000000 in
theorem IL {w0 : World} {B f g : Nat} (l : List (dS w0 B f g)) (c b : Nat) (w : World) (hw0 : w0.grownBy w (some g)) (hown : w.ownsRow B 69 3 (.slice (some ⟨g,0,none⟩) l.length c) l.length (l.flatMap dS.us)) (hn : l.length ≤ 1048576) (hb : CP w b) (hbg : b ≠ g) :
    Calls Tryz.prog 167 #[.slice (some ⟨g,0,none⟩) l.length c,.func (.func 168) #[] #[.pointer (some ⟨b,0,none⟩)]] w fun e w'=>wm l c w e w':=by
  have hcc : l.length ≤ c ∧ c ≤ maxLen:=by
    obtain ⟨c',e,h1,h2,_⟩:=iB hown rfl;injection e with _ _ e;subst e;exact ⟨h1,h2⟩
  obtain ⟨hc1,hc2⟩:=hcc;unfold maxLen at hc2;have mq:=(hown.lt g rfl).2;have hblt:=World.block_lt_of_cell? _ _ hb;have dY:=Lib.hid hown;have Hb:=Lib.hid hb;have hw0:=Lib.hid hw0;have iT : Hid ((∀ q (h : q + 1 < l.length),(l[q + 1]).x ≠ (l[q]).x) → iy dS.x l l.length = l):=fun h=>D5 (κ:=dS.x) h;clear hown hb;by_cases h2 : l.length < 2
  · have e:=iT.out fun q hq=>by omega
    have hlt2 : (l.length : Int) < 2:=(by omega);have HR:=Lib.hid (show wm l c w (.returned (.slice (some ⟨g,0,none⟩) l.length c)) w from ⟨l,e.symm,rfl,dY.out,World.grownBy.refl _ _⟩);clear e iT dY Hb;go_enter Tryz.func167,Tryz.ntmps167;go_wp2_with fail;go_ret;exact HR.out
  have Xc : ¬ (l.length : Int) < 2:=(by omega);go_enter Tryz.func167,Tryz.ntmps167;go_wp2_with fail
  go_loopw [5] (fun i wr=>∃ k : Nat,1 ≤ k ∧ k ≤ l.length ∧ i = .int .i64 k ∧ Hid (∀ q (h : q + 1 < l.length),q + 1 < k → (l[q + 1]).x ≠ (l[q]).x) ∧ Below w.heap.size w wr) (fun i _=>l.length - (intOf i).toNat)
  case atStart=>exact ⟨1,Nat.le_refl _,by omega,rfl,fun q _ hq=>by omega,Below.refl _ _⟩
  case round=>
    obtain ⟨k,hk1,hk,rfl,hall,hbel⟩:=hrel;obtain ⟨m,hm⟩ : ∃ m,m + 1 = k:=⟨k - 1,by omega⟩;by_cases hlt : k < l.length
    · have hml : m < l.length:=(by omega);have hown1:=own_below' dY.out hbel;obtain ⟨u0,u1,u2,hu⟩:=vJ l[k].len;obtain ⟨v0,v1,v2,hv⟩:=vJ l[m].len;have hgb : g < wr.heap.size:=Nat.lt_of_lt_of_le mq hbel.size;have YS : ∀ p : ak wr,p.v.cell? ⟨g,k * 3,none⟩ = some u0:=fun p=>p.cell hgb (ow hown1 hlt rfl (i:=0) (by omega) (by rw [hu]; rfl));have YT : ∀ p : ak wr,p.v.cell? ⟨g,k * 3 + 1,none⟩ = some u1:=fun p=>p.cell hgb (ow hown1 hlt rfl (i:=1) (by omega) (by rw [hu]; rfl));have TN : ∀ p : ak wr,p.v.cell? ⟨g,k * 3 + 2,none⟩ = some u2:=fun p=>p.cell hgb (ow hown1 hlt rfl (i:=2) (by omega) (by rw [hu]; rfl));have YU : ∀ p : ak wr,p.v.cell? ⟨g,m * 3,none⟩ = some v0:=fun p=>p.cell hgb (ow hown1 hml rfl (i:=0) (by omega) (by rw [hv]; rfl));have q01 : ∀ p : ak wr,p.v.cell? ⟨g,m * 3 + 1,none⟩ = some v1:=fun p=>p.cell hgb (ow hown1 hml rfl (i:=1) (by omega) (by rw [hv]; rfl));have TM : ∀ p : ak wr,p.v.cell? ⟨g,m * 3 + 2,none⟩ = some v2:=fun p=>p.cell hgb (ow hown1 hml rfl (i:=2) (by omega) (by rw [hv]; rfl));have HE:=Lib.hid (fun p : ak wr=>Gt l[k].x l[m].x f f _ _ b p.v (sZ (aA hw0.out (aR (hbel.trans (p.h.mono hbel.size)) _)) l[k]) (sZ (aA hw0.out (aR (hbel.trans (p.h.mono hbel.size)) _)) l[m]) (p.cell (Nat.lt_of_lt_of_le hblt hbel.size) ((hbel.cell hblt).trans Hb.out)));rw [hu,hv] at HE;have yZ : (k : Int) - 1 = (m : Int):=(by omega);have BN : IntKind.i64.wrap (m : Int) = (m : Int):=IntWalk.i64_in _ (by omega);have hm0 : (0 : Int) ≤ (m : Int):=(by omega);have hm1 : (m : Int) < (l.length : Int):=(by omega);have hj0 : (0 : Int) ≤ (k : Int):=(by omega);have hj1 : (k : Int) < (l.length : Int):=(by omega);have bg:=Lib.hid hbel;by_cases he : l[k].x = l[m].x
      case neg=>
        have Hn : Hid (∀ q (h : q + 1 < l.length),q + 1 < k + 1 → (l[q + 1]).x ≠ (l[q]).x):=fun q h hq=>by
          by_cases e : q = m
          · subst e; subst hm; exact he
          · exact hall.out q h (by omega)
        rw [aP he] at HE;clear he hall hbel hown1 iT hm hu hv hw0;go_wp2_with fail;refine wp_region_quiet_below (by kernel_rfl) (by kernel_rfl) ?_
        repeat (refine @wpQuiet_step _ _ _ _ _ _ _ ?_; intro K hK; go_simp; first | (refine hK _ ?_; clear hK K) | (apply Exists.intro; refine ⟨fun _=>?_,hK _ ?_⟩; (first | (go_at_call 168; exact Calls.aF (HE.out _))); clear hK K))
        refine wpQuiet_nil ?_;intro _ hw';obtain ⟨p,rfl⟩:=hw';go_wp2_with fail
        go_roundw
        case rel=>exact ⟨k + 1,by omega,by omega,by go_num,Hn.out,bg.out.trans (p.h.mono bg.out.size)⟩
        case measure=>simp [intOf]; omega
      rw [aQ he] at HE
      have DC:=Lib.hid (show kR dS.x l (k + 1) k l from by
        subst hm;exact kR.start (κ:=dS.x) hlt (fun q h hq=>hall.out q h hq) he)
      have hown1:=Lib.hid hown1;clear he hall hbel iT hm hu hv;go_wp2_with fail;refine wp_region_quiet_below (by kernel_rfl) (by kernel_rfl) ?_
      repeat (refine @wpQuiet_step _ _ _ _ _ _ _ ?_; intro K hK; go_simp; first | (refine hK _ ?_; clear hK K) | (apply Exists.intro; refine ⟨fun _=>?_,hK _ ?_⟩; (first | (go_at_call 168; exact Calls.aF (HE.out _))); clear hK K))
      refine wpQuiet_nil ?_;intro _ hw';obtain ⟨p,rfl⟩:=hw';have hown2:=Lib.hid (own_below' hown1.out p.h);have jk:=Lib.hid (aR (bg.out.trans (p.h.mono bg.out.size)) (some g));clear YU q01 TM YS YT TN HE yZ BN hm0 hm1;go_wp2_with fail
      go_loopw [5,7] (fun i1 i2 wi=>∃ (kk k2 : Nat) (dk : List (dS w0 B f g)),i1 = .int .i64 kk ∧ i2 = .int .i64 k2 ∧ 1 ≤ k2 ∧ Hid (kR dS.x l (k + k2) kk dk) ∧ wi.ownsRow B 69 3 (.slice (some ⟨g,0,none⟩) l.length c) l.length (dk.flatMap dS.us) ∧ w.grownBy wi (some g)) (fun _ i2 _=>l.length - (k + (intOf i2).toNat))
      case atStart=>exact ⟨k,1,l,rfl,rfl,Nat.le_refl _,DC.out,hown2.out,jk.out⟩
      case round=>
        obtain ⟨kk,k2,dk,rfl,rfl,hk2,hI,hown,hgr⟩:=hrel;have hcl:=hI.out;have Xd:=hcl.lt;have hdl:=hcl.len;have hle:=hcl.le;have hgw : g < wr.heap.size:=Nat.lt_of_lt_of_le mq hgr.size;have hbw : wr.heap[b]? = w.heap[b]?:=hgr.block b hblt (fun e=>hbg (by injection e));have hbw2 : b < wr.heap.size:=Nat.lt_of_lt_of_le hblt hgr.size;have hb2 : CP wr b:=(World.cell?_of_block hbw).trans Hb.out;have dY:=Lib.hid hown;have nI:=Lib.hid hgr;by_cases hlt2 : k + k2 < l.length
        · obtain ⟨m2,hm2⟩ : ∃ m2,m2 + 1 = k2:=⟨k2 - 1,by omega⟩;have hkm : k + m2 < l.length:=(by omega);obtain ⟨u0,u1,u2,hu⟩:=vJ l[k + k2].len;obtain ⟨v0,v1,v2,hv⟩:=vJ l[k + m2].len;have ek : dk[k + k2]'(by omega) = l[k + k2]:=hcl.high (k + k2) (by omega) hlt2 (by omega);have em : dk[k + m2]'(by omega) = l[k + m2]:=hcl.high (k + m2) (by omega) hkm (by omega)
          have ru : ∀ (i : Nat) (u : Value),i < 3 → l[k + k2].us[i]? = some u → ∀ p : ak wr,p.v.cell? ⟨g,k * 3 + k2 * 3 + i,none⟩ = some u:=fun i u hi hq p=>by
            rw [← Nat.add_mul];exact p.cell hgw (ow hown (k:=k + k2) (by omega) hdl hi (by rw [ek]; exact hq))
          have rv : ∀ (i : Nat) (u : Value),i < 3 → l[k + m2].us[i]? = some u → ∀ p : ak wr,p.v.cell? ⟨g,k * 3 + m2 * 3 + i,none⟩ = some u:=fun i u hi hq p=>by
            rw [← Nat.add_mul];exact p.cell hgw (ow hown (k:=k + m2) (by omega) hdl hi (by rw [em]; exact hq))
          have r10 : ∀ p : ak wr,p.v.cell? ⟨g,k * 3 + k2 * 3,none⟩ = some u0:=ru 0 u0 (by omega) (by rw [hu]; rfl);have r11 : ∀ p : ak wr,p.v.cell? ⟨g,k * 3 + k2 * 3 + 1,none⟩ = some u1:=ru 1 u1 (by omega) (by rw [hu]; rfl);have r12 : ∀ p : ak wr,p.v.cell? ⟨g,k * 3 + k2 * 3 + 2,none⟩ = some u2:=ru 2 u2 (by omega) (by rw [hu]; rfl);have r00 : ∀ p : ak wr,p.v.cell? ⟨g,k * 3 + m2 * 3,none⟩ = some v0:=rv 0 v0 (by omega) (by rw [hv]; rfl);have r01 : ∀ p : ak wr,p.v.cell? ⟨g,k * 3 + m2 * 3 + 1,none⟩ = some v1:=rv 1 v1 (by omega) (by rw [hv]; rfl);have r02 : ∀ p : ak wr,p.v.cell? ⟨g,k * 3 + m2 * 3 + 2,none⟩ = some v2:=rv 2 v2 (by omega) (by rw [hv]; rfl);clear ru rv;have HE:=Lib.hid (fun p : ak wr=>Gt l[k + k2].x l[k + m2].x f f _ _ b p.v (sZ (aA hw0.out (aA hgr (aR p.h _))) l[k + k2]) (sZ (aA hw0.out (aA hgr (aR p.h _))) l[k + m2]) (p.cell hbw2 hb2));rw [hu,hv] at HE;have i1 : (k2 : Int) - 1 = (m2 : Int):=(by omega);have i2 : IntKind.i64.wrap (m2 : Int) = (m2 : Int):=IntWalk.i64_in _ (by omega);have i3 : (0 : Int) ≤ (m2 : Int):=(by omega);have i4 : (0 : Int) ≤ (k2 : Int):=(by omega);have i5 : k2 < l.length - k:=(by omega);have i6 : m2 < l.length - k:=(by omega);have i7 : (k2 : Int) < ((l.length - k : Nat) : Int):=(by omega);have i8 : (m2 : Int) < ((l.length - k : Nat) : Int):=(by omega);by_cases he2 : l[k + k2].x = l[k + m2].x
          · have Hn:=Lib.hid (show kR dS.x l (k + (k2 + 1)) kk dk from by
              subst hm2;exact hcl.skip (κ:=dS.x) hlt2 he2)
            rw [aQ he2] at HE;clear he2 hI hown hgr hcl hb2 hbw hm2 hdl hle hu hv ek em;go_wp2_with fail;refine wp_region_quiet_below (by kernel_rfl) (by kernel_rfl) ?_
            repeat (refine @wpQuiet_step _ _ _ _ _ _ _ ?_; intro K hK; go_simp; first | (refine hK _ ?_; clear hK K) | (apply Exists.intro; refine ⟨fun _=>?_,hK _ ?_⟩; (first | (go_at_call 168; exact Calls.aF (HE.out _))); clear hK K))
            refine wpQuiet_nil ?_;intro _ hw';obtain ⟨p2,rfl⟩:=hw';have hown3:=Lib.hid (own_below' dY.out p2.h);have lG:=Lib.hid (aA nI.out (aR p2.h (some g)));go_wp2_with fail
            go_roundw
            case rel=>exact ⟨kk,k2 + 1,dk,rfl,by go_num,by omega,Hn.out,hown3.out,lG.out⟩
            case measure=>simp [intOf]; omega
          · have Hn:=Lib.hid (show kR dS.x l (k + (k2 + 1)) (kk + 1) (dk.set kk l[k + k2]) from by
              subst hm2;exact hcl.keep (κ:=dS.x) hlt2 he2)
            rw [aP he2] at HE;have Xf : ∀ p : ak wr,p.v.there g (kk * 3) (#[u0,u1,u2] : Array Value).size:=fun p=>Kj (own_below' hown p.h) (kk * 3) 3 (by omega);have hone:=YR l[k + k2] hu;have hS:=Lib.hid (fun p : ak wr=>iq [u0,u1,u2] _ (kk * 3) p.v (own_below' hown p.h));rw [← hu,Lg dk kk l[k + k2] (by omega),hu] at hS;have hkn : kk < l.length:=(by omega);have j1 : (kk : Int) < (l.length : Int):=(by omega);have j2 : (0 : Int) ≤ (kk : Int):=(by omega);clear he2 hI hown hgr hcl hb2 hbw hm2 hdl hle hu hv ek em;go_wp2_with fail;refine wp_region_quiet_below (by kernel_rfl) (by kernel_rfl) ?_
            repeat (refine @wpQuiet_step _ _ _ _ _ _ _ ?_; intro K hK; go_simp; first | (refine hK _ ?_; clear hK K) | (apply Exists.intro; refine ⟨fun _=>?_,hK _ ?_⟩; (first | (go_at_call 168; exact Calls.aF (HE.out _))); clear hK K))
            refine wpQuiet_nil ?_;intro _ hw';obtain ⟨p2,rfl⟩:=hw';have hth:=Xf p2;have hown3:=Lib.hid (hS.out p2).1;have lG:=Lib.hid (aA nI.out (aA (aR p2.h (some g)) (hS.out p2).2));go_wp2_with (first | (refine Go.wpList_store_mid rfl 69 _ _ rfl g (kk * 3) #[u0,u1,u2] rfl rfl hth TryzsizeNeedC hone ?_) | fail);go_wp2_with fail
            go_roundw
            case rel=>exact ⟨kk + 1,k2 + 1,_,by go_num,by go_num,by omega,Hn.out,hown3.out,lG.out⟩
            case measure=>simp [intOf]; omega
        · have hend : k + k2 = l.length:=(by omega);have e1:=hcl.KO;have e2:=hcl.out;rw [hend] at e1 e2;have hkk : kk < l.length:=(by omega);obtain ⟨zs,hzs⟩ : ∃ zs,zs = (Builtin.zeroCells (Value.agg #[.string ⟨#[]⟩,.int .i64 0,.slice none 0 0]).cells (l.length - kk)).toList:=⟨_,rfl⟩
          have Xe : ∀ ty,(Builtin.clear_ #[25] ty #[.slice (some ⟨g,kk * 3,none⟩) (l.length - kk) (c - kk)]).run Tryz.prog wr = .ok (.tuple #[]) (wr.setCells g (kk * 3) zs):=
            fun ty=>by
              rw [hzs]
              exact qW wr _ _ ty _ Tryz.underlying25 Tryz.zeroValue69 (by decide) g (kk * 3) _ _ (by omega) (by decide) (fun j hj=>by
                have hz : (Value.agg #[.string ⟨#[]⟩,.int .i64 0,.slice none 0 0]).cells.size = 3:=(by decide);rw [hz] at hj;rw [hown.cellAt (kk * 3 + j) (by omega),List.getElem?_eq_getElem (by rw [sW]; omega)]; rfl) (fun j hj=>hown.frozenAt (kk * 3 + j))
          obtain ⟨hs1,hs2⟩:=iq zs _ (kk * 3) wr hown;have hs3:=uH hs1 (show kk ≤ l.length by omega);rw [qX _ _ _ _ (Nat.le_refl _),CQ dS.len dk kk (by omega),e2] at hs3;have HR:=Lib.hid (show wm l c w (.returned (.slice (some ⟨g,0,none⟩) kk c)) (wr.setCells g (kk * 3) zs) from ⟨_,rfl,by rw [e1],by rw [e1]; exact hs3,aA hgr hs2⟩);have j0 : ¬ k2 < l.length - k:=(by omega);have j1 : (kk : Int) ≤ (l.length : Int):=(by omega);have j2 : (0 : Int) ≤ (kk : Int):=(by omega);have j3 : ¬ c = kk:=(by omega);have j4 : kk ≤ c:=(by omega);clear hI hown hgr hcl hb2 hbw hdl hle e1 e2 hs1 hs2 hs3 nI dY hzs;go_wp2_with fail;go_ret;exact HR.out
    · have hkl : k = l.length:=(by omega);clear hm;subst hkl;have e:=iT.out fun q hq=>hall.out q hq (by omega);have HR:=Lib.hid (show wm l c w (.returned (.slice (some ⟨g,0,none⟩) l.length c)) wr from ⟨l,e.symm,rfl,own_below' dY.out hbel,aR hbel _⟩);clear e iT hall hbel dY Hb;go_wp2_with fail;go_ret;exact HR.out
end need
namespace need
open Go.ChangeShapes Go.WideShapes Go.ChangeAt Go.RowKit ty lab dedup
open Go.Sort (SWO PermIn SortedIn grow)
def cfN {w0 : World} {B f g : Nat} (x y : dS w0 B f g) : Int:=qJ x.x y.x
theorem Eh {w0 : World} {B f g : Nat} (x y : dS w0 B f g) : ltOf cfN x y = dA x.x y.x:=by
  unfold ltOf cfN;exact Cy x.x y.x
theorem Oz (a b c : Need) (h1 : dA a b = false) (h2 : dA b c = false) : dA a c = false:=by
  cases h : dA a c with
  | false=>rfl
  | true=>
    exfalso;by_cases hba : dA b a = true
    · have:=zK b a c hba h;rw [h2] at this; cases this
    · have hba : dA b a = false:=(by simpa using hba);rw [rD a b h1 hba,h2] at h;cases h
theorem abL {w0 : World} {B f g : Nat} : SWO (ltOf (cfN (w0:=w0) (B:=B) (f:=f) (g:=g))) where
  irrefl x:=by rw [Eh]; exact sS _
  trans x y z h1 h2:=by rw [Eh] at *; exact zK _ _ _ h1 h2
  ntrans x y z h1 h2:=by rw [Eh] at *; exact Oz _ _ _ h1 h2
set_option maxRecDepth 100000 in
theorem IQ {w0 : World} {B f g : Nat} (l : List (dS w0 B f g)) (c : Nat) (w : World) (hw0 : w0.grownBy w (some g)) (hown : w.ownsRow B 69 3 (.slice (some ⟨g,0,none⟩) l.length c) l.length (l.flatMap dS.us)) (hn : l.length ≤ 1048576) :
    Calls Tryz.prog 166 #[.slice (some ⟨g,0,none⟩) l.length c,.func (.func 100) #[] #[]] w fun e w'=>e = .returned (.tuple #[]) ∧
      ∃ d : List (dS w0 B f g),List.Perm d l ∧ d.Pairwise (fun a b=>dA b.x a.x = false) ∧ w'.ownsRow B 69 3 (.slice (some ⟨g,0,none⟩) d.length c) d.length (d.flatMap dS.us) ∧ w.grownBy w' (some g):=by
  by_cases h0 : l = []
  · subst h0;refine (AnyF.slices_SortFunc_none Tryz.sortNeed (some ⟨g,0,none⟩) c _ w).mono ?_;rintro e w' ⟨rfl,rfl⟩;exact ⟨rfl,[],List.Perm.refl _,List.Pairwise.nil,hown,World.grownBy.refl _ _⟩
  have hpos : 0 < l.length:=by cases l with
    | nil=>exact absurd rfl h0
    | cons a r=>simp
  haveI : Inhabited (dS w0 B f g):=⟨l[0]⟩
  have eg : ∀ args w,(callFunc 100 args).run Tryz.prog w = .ok (.enter 100 args) w:=enters_of Tryz.func100 (by kernel_rfl) rfl;have hcon:=AnyQ.slices_SortFunc Tryz.sortNeed 3 Tryz.isAgg69 Tryz.sizeOf69 dS.us dS.len (fun x v hv=>x.own.ones v hv) cfN abL 100 #[] g 0 c l.toArray w eg (fun m os dk hs x y=>Ea x.x y.x f f x.us y.us _ (sZ (aA hw0 (gy _ _)) x) (sZ (aA hw0 (gy _ _)) y)) (qj (enc:=dS.us) (k:=3) dS.len hown) (hown.lt g rfl).2 (by simp; omega);have hs : l.toArray.size = l.length:=(by simp);rw [hs] at hcon;refine hcon.mono ?_;rintro e w' ⟨rfl,d',n,os,hp,hso,rfl⟩;obtain ⟨hsz,_,hperm⟩:=hp;rw [← hs,Array.extract_size] at hperm;have e2 : d'.extract 0 l.toArray.size = d':=(by rw [← hsz]; exact Array.extract_size);rw [e2] at hperm;have hl : d'.toList.length = l.length:=(by rw [Array.length_toList,hsz,hs]);refine ⟨rfl,d'.toList,by simpa using hperm,?_,?_,gy _ _⟩
  · rw [List.pairwise_iff_getElem];intro i j hi hj hij;have h1:=hso i j (Nat.zero_le _) hij (by omega);have hi' : i < d'.size:=(by simpa using hi);have hj' : j < d'.size:=(by simpa using hj);rw [getElem!_pos d' i hi',getElem!_pos d' j hj',Eh] at h1;exact h1
  · have:=oo (n:=n) (os:=os) (enc:=dS.us) dS.len hl hown;rw [hl] at this ⊢;exact this
def Gu {w0 : World} {B f g : Nat} (l : List (dS w0 B f g)) (c : Nat) (w : World) (e : Ending) (w' : World) : Prop:=
  ∃ d : List (dS w0 B f g),d.map dS.x = aU dA (l.map dS.x) ∧ ((l.flatMap dS.F).Nodup → (d.flatMap dS.F).Nodup) ∧ e = .returned (.slice (some ⟨g,0,none⟩) d.length c) ∧ w'.ownsRow B 69 3 (.slice (some ⟨g,0,none⟩) d.length c) d.length (d.flatMap dS.us) ∧ w.grownBy w' (some g)
set_option maxRecDepth 100000 in
set_option maxHeartbeats 8000000 in
theorem IU {w0 : World} {B f g : Nat} (l : List (dS w0 B f g)) (c : Nat) (w : World) (hw0 : w0.grownBy w (some g)) (hown : w.ownsRow B 69 3 (.slice (some ⟨g,0,none⟩) l.length c) l.length (l.flatMap dS.us)) (hn : l.length ≤ 1048576) :
    Calls Tryz.prog 99 #[.slice (some ⟨g,0,none⟩) l.length c,.func (.func 100) #[] #[]] w fun e w'=>Gu l c w e w':=by
  have mq:=(hown.lt g rfl).2;obtain ⟨W,hW⟩ : ∃ W,W = w.alloc (.cells #[.func (.func 100) #[] #[]] 127):=⟨_,rfl⟩;have hbW : Below w.heap.size w W:=(by rw [hW]; exact (Below.refl _ _).alloc (Nat.le_refl _) _)
  have hcW : CP W w.heap.size:=by
    unfold CP;rw [hW,cell_of_row _ _ _ _ _ _ (heap_alloc_new w _)];rfl
  have hgW : w0.grownBy W (some g):=aA hw0 (aR hbW _);have HS:=Lib.hid (IQ l c W hgW (own_below' hown hbW) hn);have c0 : W.cell? ⟨w.heap.size,0,none⟩ = some (.func (.func 100) #[] #[]):=hcW;have Hc:=Lib.hid hcW;have Hb:=Lib.hid hbW;have HW:=Lib.hid hW;have Wl:=Lib.hid hgW;clear hown hbW hcW hW hgW hw0;go_enter Tryz.func99,Tryz.ntmps99;go_wp2_with fail;rw [← HW.out];go_wp2_with fail;refine HS.out.mono ?_;rintro e w2 ⟨rfl,d,hp,hpw,hown2,jk⟩;have hbg : w.heap.size ≠ g:=(by omega);have hblt:=World.block_lt_of_cell? _ _ Hc.out;have hc2 : CP w2 w.heap.size:=(World.cell?_of_block (jk.block w.heap.size hblt (fun e=>hbg (by injection e)))).trans Hc.out;have hl:=hp.length_eq;have HC:=Lib.hid (IL d c w.heap.size w2 (aA Wl.out jk) hown2 (by omega) hc2 hbg);rw [hl] at HC;have nI:=Lib.hid (aA (aR Hb.out (some g)) jk)
  have TY : Hid ((iy dS.x d d.length).map dS.x = aU dA (l.map dS.x)):=by
    show (iy dS.x d d.length).map dS.x = _;rw [NT];have h1:=vR Wi (l:=l.map dS.x) (d:=d.map dS.x) (hp.map _) (List.pairwise_map.2 hpw);rw [List.length_map] at h1;exact h1
  have Hnd : Hid ((l.flatMap dS.F).Nodup → ((iy dS.x d d.length).flatMap dS.F).Nodup):=fun h=>Q0 (by
    have:=NU dS.x d d.length (Nat.le_refl _)
    rwa [List.take_length] at this) (Le hp h)
  clear hp hpw hown2 jk hc2 hl c0;go_wp2_with fail;refine HC.out.mono ?_;rintro e w3 ⟨d2,hd2,rfl,hown3,lG⟩;have HR:=Lib.hid (show Gu l c w (.returned (.slice (some ⟨g,0,none⟩) d2.length c)) w3 from ⟨d2,by rw [hd2]; exact TY.out,by rw [hd2]; exact Hnd.out,rfl,hown3,aA nI.out lG⟩);clear hd2 hown3 lG TY Hnd;go_wp2_with fail;go_ret;exact HR.out
end need
namespace need
open Go Go.RowKit ty
theorem Ah {w : World} {B f g n c : Nat} {T : TypeId} {l : List Need} (h : kM w B f T 3 (.slice (some ⟨g,0,none⟩) n c) n (l.flatMap Need.row)) :
    ∃ d : List (dS w B f g),d.map dS.x = l ∧ w.ownsRow B T 3 (.slice (some ⟨g,0,none⟩) n c) n (d.flatMap dS.us) ∧ (d.flatMap dS.F).Nodup:=by
  obtain ⟨xs,F,h1,h2,h3,h4,h5⟩:=h;obtain ⟨d,e1,e2,e3⟩:=Gq (g:=g) l xs F h3 (fun p hp e=>h5 p hp (by rw [e]; rfl));exact ⟨d,e1,by rw [e2]; exact h1,by rw [e3]; exact h4⟩
theorem Ai {w w' : World} {B f g : Nat} (hs : w.heap.size ≤ w'.heap.size) : ∀ d : List (dS w B f g),(∀ e ∈ d,∀ x ∈ e.F,fQ w w' x) → bF w' B f (d.flatMap dS.us) ((d.map dS.x).flatMap Need.row) (d.flatMap dS.F)
  | [],_=>bF.nil
  | e :: d,hk=>by
    rw [List.flatMap_cons,List.map_cons,List.flatMap_cons,List.flatMap_cons];exact (e.own.kept hs (hk e List.mem_cons_self)).append (Ai hs d fun e' he=>hk e' (List.mem_cons_of_mem _ he))
theorem JZ {w : World} {B f g : Nat} (d : List (dS w B f g)) : ∀ x ∈ d.flatMap dS.F,x.1 ≠ g:=fun x hx=>by
  obtain ⟨e,he,hxe⟩:=List.mem_flatMap.1 hx;exact e.out x hxe
theorem IV {w w' : World} {B f g n c : Nat} {T : TypeId} (d : List (dS w B f g)) (hg : w.grownBy w' (some g)) (hown : w'.ownsRow B T 3 (.slice (some ⟨g,0,none⟩) n c) n (d.flatMap dS.us)) (hn : (d.flatMap dS.F).Nodup) :
    kM w' B f T 3 (.slice (some ⟨g,0,none⟩) n c) n ((d.map dS.x).flatMap Need.row):=by
  refine ⟨_,_,hown,?_,JY hg.size (fun x hx hlt=>hg.block x hlt (fun e=>hx (by injection e))) d,hn,fun x hx e=>JZ d x hx (by simp [Value.ownBlock] at e; exact e.symm)⟩;rw [aM Need.au,List.length_map];have:=hown.1;rw [sW] at this;exact this
theorem dS.vals {w : World} {B f g : Nat} (e : dS w B f g) : ∃ A2 c2,e.us = [.string e.x.key,.int .i64 e.x.op,.slice A2 e.x.values.length c2] ∧ e.x.Wf ∧ dG w B f (.slice A2 e.x.values.length c2) (.sl 1 e.x.values.length (e.x.values.flatMap Str.row)) e.F:=by
  obtain ⟨A2,c2,kN,hwf,_⟩:=Need.opened e.own.lies;have h:=e.own;obtain ⟨v0,_,G0,_,e0,hF,o0,h⟩:=h.bO;obtain ⟨v1,_,G1,_,rfl,rfl,o1,h⟩:=h.bO;obtain ⟨v2,r,G2,F',rfl,rfl,o2,h⟩:=h.bO;obtain ⟨rfl,rfl⟩:=h.nO;have hG0 : G0 = []:=o0.flat trivial;have hG1 : G1 = []:=o1.flat trivial;rw [kN] at e0;injection e0 with e1 e2;injection e2 with e2 e3;injection e3 with e3;subst e3;refine ⟨A2,c2,kN,hwf,?_⟩;rw [hF,hG0,hG1];simpa using o2
theorem CR {w w' : World} {B : Nat} {e : TypeId} {k g n c : Nat} {xs : List Value} (h : w.ownsRow B e k (.slice (some ⟨g,0,none⟩) n c) n xs) (hg : w'.heap[g]? = w.heap[g]?) : w'.ownsRow B e k (.slice (some ⟨g,0,none⟩) n c) n xs:=by
  refine ⟨h.1,?_⟩;rcases h.2 with ⟨h0,_⟩ | ⟨g',cap,cur,hv,h1,h2,h3⟩
  · cases h0
  · have hv':=hv;injection hv with hv _ _;injection hv with hv;injection hv with hv;subst hv;exact .inr ⟨g,cap,cur,hv',h1,hg.trans h2,h3⟩
theorem Li {α : Type} {l : List α} {j : Nat} (h : j < l.length) : l = l.take j ++ (l[j] :: l.drop (j + 1)):=by
  rw [← List.drop_eq_getElem_cons h,List.take_append_drop]
theorem Ra {w w2 w3 : World} {B f g n c : Nat} {T : TypeId} (d : List (dS w B (f + 1) g)) (hown : w.ownsRow B T 3 (.slice (some ⟨g,0,none⟩) n c) n (d.flatMap dS.us)) (hnd : (d.flatMap dS.F).Nodup) {j : Nat} (hj : j < d.length) (vs : List ByteArray) (A : Option Addr) (cc : Nat) (G : List Cl)
    (hk : nu d[j].F w w2) (hG : G.Nodup) (hGF : ∀ x ∈ G,x ∈ d[j].F) (ho : dG w2 B (f + 1) (.slice A vs.length cc) (.sl 1 vs.length (vs.flatMap Str.row)) G) (h3 : w3 = w2.setCell ⟨g,j * 3 + 2,none⟩ (.slice A vs.length cc)) :
    kM w3 B (f + 1) T 3 (.slice (some ⟨g,0,none⟩) n c) n (((d.map dS.x).set j ⟨d[j].x.key,d[j].x.op,vs⟩).flatMap Need.row) ∧ w2.grownBy w3 (some g):=by
  obtain ⟨A2,c2,kN,hwf,_⟩:=d[j].vals;have hlen:=hown.1;rw [sW] at hlen;have hg2 : w2.heap[g]? = w.heap[g]?:=hk.block g (hown.lt g rfl).2 (fun hx=>let ⟨m,hm⟩:=qg.1 hx; d[j].out _ hm rfl);have hown2:=CR hown hg2;obtain ⟨s1,s2⟩:=hown2.stored (j * 3 + 2) (.slice A vs.length cc);rw [← h3] at s1 s2;have hgl : g < w.heap.size:=(hown.lt g rfl).2;have YV : w.heap.size ≤ w3.heap.size:=Nat.le_trans hk.size s2.size
  have hside : ∀ e : dS w B (f + 1) g,(∀ x ∈ e.F,x ∉ d[j].F) → ∀ x ∈ e.F,fQ w w3 x:=fun e he x hx=>by
    have hr:=(e.own.range x hx).2;exact (hk.cell x hr (he x hx)).trans (fQ.of_block (s2.block x.1 (Nat.lt_of_lt_of_le hr hk.size) (fun h=>e.out x hx (by injection h))))
  have hsp:=Li hj
  have hF : d.flatMap dS.F = (d.take j).flatMap dS.F ++ (d[j].F ++ (d.drop (j + 1)).flatMap dS.F):=by
    conv=>lhs; rw [hsp]
    rw [List.flatMap_append,List.flatMap_cons]
  have hall:=JZ d;rw [hF] at hnd hall;obtain ⟨n1,n2,n3⟩:=List.nodup_append.1 hnd;obtain ⟨n4,n5,n6⟩:=List.nodup_append.1 n2;have o1:=Ai (w':=w3) YV (d.take j) fun e he=>hside e fun x hx hx2=>n3 x (List.mem_flatMap.2 ⟨e,he,hx⟩) x (List.mem_append_left _ hx2) rfl;have o3:=Ai (w':=w3) YV (d.drop (j + 1)) fun e he=>hside e fun x hx hx2=>n6 x hx2 x (List.mem_flatMap.2 ⟨e,he,hx⟩) rfl;have ho3 : dG w3 B (f + 1) (.slice A vs.length cc) (.sl 1 vs.length (vs.flatMap Str.row)) G:=ho.kept s2.size fun x hx=>fQ.of_block (s2.block x.1 (ho.range x hx).2 (fun h=>d[j].out x (hGF x hx) (by injection h)))
  have o2 : bF w3 B (f + 1) [.string d[j].x.key,.int .i64 d[j].x.op,.slice A vs.length cc] (Need.row ⟨d[j].x.key,d[j].x.op,vs⟩) G:=by
    have:=bF.cons (rP (w:=w3) (B:=B) (f:=f) hwf.1) (bF.cons (lX (w:=w3) (B:=B) (f:=f) hwf.2) (bF.cons ho3 bF.nil));simp only [List.nil_append,List.append_nil] at this;exact this
  have hsub : ∀ x ∈ (d.take j).flatMap dS.F ++ (G ++ (d.drop (j + 1)).flatMap dS.F),x ∈ (d.take j).flatMap dS.F ++ (d[j].F ++ (d.drop (j + 1)).flatMap dS.F):=fun x hx=>by
    rcases List.mem_append.1 hx with hx | hx
    · exact List.mem_append_left _ hx
    · rcases List.mem_append.1 hx with hx | hx
      · exact List.mem_append_right _ (List.mem_append_left _ (hGF x hx))
      · exact List.mem_append_right _ (List.mem_append_right _ hx)
  refine ⟨⟨_,(d.take j).flatMap dS.F ++ (G ++ (d.drop (j + 1)).flatMap dS.F),s1,?_,?_,?_,fun x hx e=>hall x (hsub x hx) (by simp [Value.ownBlock] at e; exact e.symm)⟩,s2⟩
  · rw [aM Need.au,List.length_set,List.length_map];exact hlen
  · have e1 : (d.flatMap dS.us).set (j * 3 + 2) (.slice A vs.length cc) = (d.take j).flatMap dS.us ++ ([.string d[j].x.key,.int .i64 d[j].x.op,.slice A vs.length cc] ++ (d.drop (j + 1)).flatMap dS.us):=by
      have hl1 : ((d.take j).flatMap dS.us).length = j * 3:=(by rw [sW,List.length_take,Nat.min_eq_left (by omega)])
      conv=>lhs; rw [hsp]
      rw [List.flatMap_append,List.flatMap_cons,kN,List.set_append_right _ _ (by omega),hl1,show j * 3 + 2 - j * 3 = 2 by omega];rfl
    have e2 : ((d.map dS.x).set j ⟨d[j].x.key,d[j].x.op,vs⟩).flatMap Need.row = ((d.take j).map dS.x).flatMap Need.row ++ (Need.row ⟨d[j].x.key,d[j].x.op,vs⟩ ++ ((d.drop (j + 1)).map dS.x).flatMap Need.row):=by
      rw [List.set_eq_take_append_cons_drop,if_pos (by simpa using hj),List.flatMap_append,List.flatMap_cons,List.map_take,List.map_drop]
    rw [e1,e2];exact o1.append (o2.append o3)
  · refine List.nodup_append.2 ⟨n1,List.nodup_append.2 ⟨hG,n5,fun a ha b hb e=>n6 a (hGF a ha) b hb e⟩,fun a ha b hb e=>?_⟩;rcases List.mem_append.1 hb with hb | hb
    · exact n3 a ha b (List.mem_append_left _ (hGF b hb)) e
    · exact n3 a ha b (List.mem_append_right _ hb) e
end need
end Go.Proofs.YtcfbkfmkjggcdaaGreatDoor
