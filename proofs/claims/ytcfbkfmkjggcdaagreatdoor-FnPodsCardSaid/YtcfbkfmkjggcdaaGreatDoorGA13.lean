/- Merged: NeedS LessS ElNeed SelS FlTolerance DrawTo. -/
import Derived.Test.YtcfbkfmkjggcdaaGreatDoorGA10
import Derived.Test.YtcfbkfmkjggcdaaGreatDoorGA1
import Derived.Laws.Cover1
import Derived.Test.YtcfbkfmkjggcdaaGreatDoorGA9
import Derived.Test.YtcfbkfmkjggcdaaGreatDoorRows
import Derived.ProofKit
import Derived.OpenShut
import Derived.Test.YtcfbkfmkjggcdaaGreatDoorGA5
import Derived.Test.YtcfbkfmkjggcdaaGreatDoorGA8
import Derived.Test.YtcfbkfmkjggcdaaGreatDoorGA6
import Derived.Test.YtcfbkfmkjggcdaaGreatDoorGA0
set_option linter.unusedVariables false
namespace Go.Proofs.YtcfbkfmkjggcdaaGreatDoor
namespace need
open Go.ChangeShapes Go.WideShapes Go.ChangeAt Go.RowKit ty lab
set_option maxRecDepth 100000 in
set_option maxHeartbeats 16000000 in
theorem KG (x : Need) (f : Nat) (vs : List Value) (w : World) (h : aH w f vs x.row) (hw : x.wt ≤ 1048576) :
    Calls Tryz.prog 119 #[.agg vs.toArray] w fun e w'=>e = .returned (.bool (yes (lU x))) ∧ Below w.heap.size w w':=by
  have hk1:=Nh x;have hv1:=sU x;have hvz : ∀ k (h : k < x.values.length),x.values[k].size ≤ 1048576:=fun k h=>Nat.le_trans (Wd h) hw;obtain ⟨key,op,vals⟩:=x;obtain ⟨A2,c2,rfl,hwf,k2,m2,l2⟩:=Need.opened h;simp only [Need.Wf] at *;obtain ⟨w0,w1⟩:=hwf;have hop:=Mf w1;obtain ⟨A',c',hA',_,_,hr,_⟩:=Str.opened l2;injection hA' with a1 _ a3;subst a1 a3;obtain ⟨R,hR⟩ : ∃ R,yes (lU ⟨key,op,vals⟩) = R:=⟨_,rfl⟩;rw [hR];have Hno : Hid (¬ lU ⟨key,op,vals⟩ → R = false):=fun h=>by rw [← hR]; exact aP h
  have aG : Hid (lU ⟨key,op,vals⟩ → R = true):=fun h=>by rw [← hR]; exact aQ h
  have HB:=Lib.hid (AU.new 69 w [.string key,.int .i64 op,.slice A2 vals.length c2]);have HK:=Lib.hid (fun w=>vC key w (by omega));have Hr:=Lib.hid hr;have PN:=Lib.hid hvz;have Wp : vals.length ≤ 1048576:=(by omega);unfold maxLen at m2;have p0:=HB.out.cell (j:=0) rfl;have p1:=HB.out.cell (j:=1) rfl;have p2:=HB.out.cell (j:=2) rfl;clear h l2 hr hvz hR w0 w1 hk1 hv1 hw;by_cases hK : gP key
  case neg=>
    have Hf:=Lib.hid (Hno.out fun h=>hK h.key);rw [aP hK] at HK;clear hK Hno aG Hr PN p1 p2;go_enter Tryz.func119,Tryz.ntmps119;go_wp2_with fail;refine (HK.out _).mono ?_;rintro e x1 ⟨rfl,n1,rfl⟩;go_wp2_with fail;go_ret;exact ⟨by rw [Hf.out]; rfl,below_drewN HB.out.1 n1⟩
  rw [aQ hK] at HK;by_cases ho : 1 ≤ op ∧ op ≤ 4
  case neg=>
    have Hf:=Lib.hid (Hno.out fun h=>ho ⟨h.lo,h.hi⟩);have HI:=Lib.hid (fun w=>arith.Jk op 1 4 w (by omega));clear hK ho Hno aG Hr PN p2;go_enter Tryz.func119,Tryz.ntmps119;go_wp2_with fail;refine (HK.out _).mono ?_;rintro e x1 ⟨rfl,n1,rfl⟩;go_wp2_with fail;refine (HI.out _).mono ?_;rintro e x2 ⟨rfl,rfl⟩;go_wp2_with fail;go_ret;exact ⟨by rw [Hf.out]; rfl,below_drewN HB.out.1 n1⟩
  obtain ⟨ho1,Wm⟩:=ho;have HI:=Lib.hid (fun w=>arith.Dm op 1 4 w (by omega) (by omega));by_cases h3 : 3 ≤ op
  · by_cases hn : vals.length = 0
    · have Hf:=Lib.hid (aG.out ⟨hK,ho1,Wm,fun _=>hn,fun h=>by simp only at h; omega⟩);have en : ((vals.length : Int) == 0) = true:=(by rw [hn]; rfl);clear hK Hno aG Hr PN hn;go_enter Tryz.func119,Tryz.ntmps119;go_wp2_with fail;refine (HK.out _).mono ?_;rintro e x1 ⟨rfl,n1,rfl⟩;go_wp2_with fail;refine (HI.out _).mono ?_;rintro e x2 ⟨rfl,rfl⟩;go_wp2_with fail;go_ret;exact ⟨by rw [Hf.out]; rfl,below_drewN HB.out.1 n1⟩
    · have Hf:=Lib.hid (Hno.out fun h=>hn (h.none h3));have en : ((vals.length : Int) == 0) = false:=(by rw [beq_eq_false_iff_ne]; omega);clear hK Hno aG Hr PN hn;go_enter Tryz.func119,Tryz.ntmps119;go_wp2_with fail;refine (HK.out _).mono ?_;rintro e x1 ⟨rfl,n1,rfl⟩;go_wp2_with fail;refine (HI.out _).mono ?_;rintro e x2 ⟨rfl,rfl⟩;go_wp2_with fail;go_ret;exact ⟨by rw [Hf.out]; rfl,below_drewN HB.out.1 n1⟩
  by_cases hn : 1 ≤ vals.length ∧ vals.length ≤ 4
  case neg=>
    have Hf:=Lib.hid (Hno.out fun h=>by have:=h.some (by simp only; omega); exact hn ⟨this.1,this.2.1⟩);have HI2:=Lib.hid (fun w=>arith.Jk (vals.length : Int) 1 4 w (by omega));clear hK hn Hno aG Hr PN;go_enter Tryz.func119,Tryz.ntmps119;go_wp2_with fail;refine (HK.out _).mono ?_;rintro e x1 ⟨rfl,n1,rfl⟩;go_wp2_with fail;refine (HI.out _).mono ?_;rintro e x2 ⟨rfl,rfl⟩;go_wp2_with fail;refine (HI2.out _).mono ?_;rintro e x2 ⟨rfl,rfl⟩;go_wp2_with fail;go_ret;exact ⟨by rw [Hf.out]; rfl,below_drewN HB.out.1 n1⟩
  obtain ⟨hn1,hn4⟩:=hn;have HI2:=Lib.hid (fun w=>arith.Dm (vals.length : Int) 1 4 w (by omega) (by omega));have qD:=Lib.hid (fun (hg : nV vals vals.length)=>aG.out ⟨hK,ho1,Wm,fun h=>by simp only at h; omega,fun _=>⟨hn1,hn4,hg⟩⟩);have fq:=Lib.hid (fun (hg : ¬ nV vals vals.length)=>Hno.out fun h=>hg (h.some (by simp only; omega)).2.2);clear hK Hno aG;go_enter Tryz.func119,Tryz.ntmps119;go_wp2_with fail;refine (HK.out _).mono ?_;rintro e x1 ⟨rfl,n1,hx1⟩;have B1:=Lib.hid (show AU 69 w [.string key,.int .i64 op,.slice A2 vals.length c2] x1 by rw [hx1]; exact HB.out.drewN n1);have p1:=B1.out.cell (j:=1) rfl;have p2:=B1.out.cell (j:=2) rfl;clear hx1 HK;go_wp2_with fail;refine (HI.out _).mono ?_;rintro e x2 ⟨rfl,rfl⟩;go_wp2_with fail;refine (HI2.out _).mono ?_;rintro e x2 ⟨rfl,rfl⟩;clear HI HI2 HB p0;go_wp2_with fail
  go_loopw [3] (fun i wr=>∃ j : Nat,j ≤ vals.length ∧ i = .int .i64 j ∧ Hid (nV vals j) ∧ AU 69 w [.string key,.int .i64 op,.slice A2 vals.length c2] wr) (fun i _=>vals.length - (intOf i).toNat)
  case atStart=>exact ⟨0,Nat.zero_le _,rfl,fun i hi hj=>by omega,B1.out⟩
  case round=>
    clear B1 p1 p2;obtain ⟨j,hj,rfl,hgood,pY⟩:=hrel;have p2:=pY.cell (j:=2) rfl;have Bd:=Lib.hid pY;by_cases hlt : j < vals.length
    · have hbw:=pY.1;have hbl : w.heap.size < wr.heap.size:=aX pY.2;obtain ⟨g,o,rfl,hg,hc0⟩:=(Hr.out.below hbw).2 (by omega);have q0 : ∀ p : ak wr,p.v.cell? ⟨g,o + j,none⟩ = some (.string vals[j]):=fun p=>p.cell hg (hc0 j hlt _ (bV vals j hlt));have P2 : ∀ p : ak wr,p.v.cell? ⟨w.heap.size,2,none⟩ = some (.slice (some ⟨g,o,none⟩) vals.length c2):=fun p=>p.cell hbl p2;have HV:=Lib.hid (fun w=>EA (vD vals[j] w (PN.out j hlt)));have hj0 : (0 : Int) ≤ (j : Int):=(by omega);have hjn : (j : Int) < (vals.length : Int):=(by omega);have hwj : IntKind.i64.wrap (j : Int) = (j : Int):=IntWalk.i64_in _ (by omega);by_cases hV : gG vals[j]
      case neg=>
        have Hf:=Lib.hid (fq.out fun h2=>hV (h2 j hlt hlt).1);rw [aP hV] at HV;clear hV qD fq hgood hc0 pY hbw hg Hr PN;generalize vals[j] = y at q0 HV;go_wp2_with fail;refine wp_region_quiet_below (by kernel_rfl) (by kernel_rfl) ?_
        repeat (refine @wpQuiet_step _ _ _ _ _ _ _ ?_; intro K hK; go_simp; first | (refine hK _ ?_; clear hK K) | (apply Exists.intro; refine ⟨fun _=>?_,hK _ ?_⟩; (first | (go_at_call 118; exact Calls.aF (HV.out _))); clear hK K))
        refine wpQuiet_nil ?_;intro _ hw';obtain ⟨p,rfl⟩:=hw';go_wp2_with fail;go_ret;exact ⟨by rw [Hf.out]; rfl,(Bd.out.below p.h).1⟩
      rw [aQ hV] at HV;by_cases hz : j = 0
      · have Hg:=Lib.hid (pW hgood.out hlt hV (fun m hm=>by omega));have hn0 : ¬ (0 : Int) < (j : Int):=(by omega);have hn1' : ¬ 0 < j:=(by omega);clear hV qD fq hgood hc0 pY hbw hg Hr PN hz;generalize vals[j] = y at q0 HV;go_wp2_with fail;refine wp_region_quiet_below (by kernel_rfl) (by kernel_rfl) ?_
        repeat (refine @wpQuiet_step _ _ _ _ _ _ _ ?_; intro K hK; go_simp; first | (refine hK _ ?_; clear hK K) | (apply Exists.intro; refine ⟨fun _=>?_,hK _ ?_⟩; (first | (go_at_call 118; exact Calls.aF (HV.out _))); clear hK K))
        refine wpQuiet_nil ?_;intro _ hw';obtain ⟨p,rfl⟩:=hw';go_wp2_with fail
        go_roundw
        case rel=>exact ⟨j + 1,by omega,by go_num,Hg.out,Bd.out.below p.h⟩
        case measure=>simp [intOf]; omega
      obtain ⟨m,hm⟩ : ∃ m,m + 1 = j:=⟨j - 1,by omega⟩;have hml : m < vals.length:=(by omega);have q1 : ∀ p : ak wr,p.v.cell? ⟨g,o + m,none⟩ = some (.string vals[m]):=fun p=>p.cell hg (hc0 m hml _ (bV vals m hml));have yZ : (j : Int) - 1 = (m : Int):=(by omega);have BN : IntKind.i64.wrap (m : Int) = (m : Int):=IntWalk.i64_in _ (by omega);have hm0 : (0 : Int) ≤ (m : Int):=(by omega);have hm1 : (m : Int) < (vals.length : Int):=(by omega);have hjp : (0 : Int) < (j : Int):=(by omega);have Dw : 0 < j:=(by omega);cases hb : aJ vals[m] vals[j] with
      | true=>
        have Hg:=Lib.hid (pW hgood.out hlt hV (fun m' hm'=>by
                                                                          obtain rfl : m' = m:=(by omega);exact hb))
        unfold aJ at hb;clear hV qD fq hgood hc0 pY hbw hg Hr PN hz hm;generalize vals[j] = y at q0 HV hb;generalize vals[m] = z at q1 hb;go_wp2_with fail;refine wp_region_quiet_below (by kernel_rfl) (by kernel_rfl) ?_
        repeat (refine @wpQuiet_step _ _ _ _ _ _ _ ?_; intro K hK; go_simp; first | (refine hK _ ?_; clear hK K) | (apply Exists.intro; refine ⟨fun _=>?_,hK _ ?_⟩; (first | (go_at_call 118; exact Calls.aF (HV.out _))); clear hK K))
        refine wpQuiet_nil ?_;intro _ hw';obtain ⟨p,rfl⟩:=hw';go_wp2_with fail
        go_roundw
        case rel=>exact ⟨j + 1,by omega,by go_num,Hg.out,Bd.out.below p.h⟩
        case measure=>simp [intOf]; omega
      | false=>
        have Hf:=Lib.hid (fq.out fun h2=>by rw [(h2 j hlt hlt).2 m hm] at hb; cases hb);unfold aJ at hb;clear hV qD fq hgood hc0 pY hbw hg Hr PN hz hm;generalize vals[j] = y at q0 HV hb;generalize vals[m] = z at q1 hb;go_wp2_with fail;refine wp_region_quiet_below (by kernel_rfl) (by kernel_rfl) ?_
        repeat (refine @wpQuiet_step _ _ _ _ _ _ _ ?_; intro K hK; go_simp; first | (refine hK _ ?_; clear hK K) | (apply Exists.intro; refine ⟨fun _=>?_,hK _ ?_⟩; (first | (go_at_call 118; exact Calls.aF (HV.out _))); clear hK K))
        refine wpQuiet_nil ?_;intro _ hw';obtain ⟨p,rfl⟩:=hw';go_wp2_with fail;go_ret;exact ⟨by rw [Hf.out]; rfl,(Bd.out.below p.h).1⟩
    · obtain rfl : j = vals.length:=(by omega);have Hf:=Lib.hid (qD.out hgood.out);clear hgood pY;go_wp2_with fail;go_ret;exact ⟨by rw [Hf.out]; rfl,Bd.out.1⟩
end need
namespace need
open Go.ChangeShapes Go.WideShapes Go.ChangeAt Go.RowKit ty lab
theorem KH {a b : Need} (h : ¬ a.key = b.key) : dA a b = aJ a.key b.key:=by unfold dA; rw [if_neg h]
theorem Np {a b : Need} (h : a.key = b.key) (h2 : ¬ a.op = b.op) : dA a b = decide (a.op < b.op):=by unfold dA; rw [if_pos h,if_neg h2]
theorem Ii {a b : Need} (h : a.key = b.key) (h2 : a.op = b.op) : dA a b = fU a.values b.values:=by unfold dA; rw [if_pos h,if_pos h2]
set_option maxRecDepth 100000 in
set_option maxHeartbeats 16000000 in
theorem pq (x y : Need) (f1 f2 : Nat) (us vs : List Value) (w : World) (h1 : aH w f1 us x.row) (h2 : aH w f2 vs y.row) :
    Calls Tryz.prog 112 #[.agg us.toArray,.agg vs.toArray] w fun e w'=>e = .returned (.bool (dA x y)) ∧ Below w.heap.size w w':=by
  obtain ⟨R,hR⟩ : ∃ R,dA x y = R:=⟨_,rfl⟩;rw [hR];have Hk : Hid (¬ x.key = y.key → R = aJ x.key y.key):=fun h=>by rw [← hR]; exact KH h
  have Ho : Hid (x.key = y.key → ¬ x.op = y.op → R = decide (x.op < y.op)):=fun h h2=>by rw [← hR]; exact Np h h2
  have Hv : Hid (x.key = y.key → x.op = y.op → R = fU x.values y.values):=fun h h2=>by rw [← hR]; exact Ii h h2
  obtain ⟨k1,o1,l1⟩:=x;obtain ⟨k2,o2,l2⟩:=y;obtain ⟨A1,c1,rfl,_,n1,m1,r1⟩:=Need.opened h1;obtain ⟨A2,c2,rfl,_,n2,m2,r2⟩:=Need.opened h2;simp only at *;obtain ⟨A1',c1',hA1,_,_,r1',_⟩:=Str.opened r1;injection hA1 with a1 _ a3;subst a1 a3;obtain ⟨A2',c2',hA2,_,_,r2',_⟩:=Str.opened r2;injection hA2 with a1 _ a3;subst a1 a3;unfold maxLen at m1 m2;have HB:=Lib.hid (oQ.new 69 w [.string k1,.int .i64 o1,.slice A1 l1.length c1] [.string k2,.int .i64 o2,.slice A2 l2.length c2]);have R1:=Lib.hid r1';have R2:=Lib.hid r2';have p0:=HB.out.cell1 (j:=0) rfl;have p1:=HB.out.cell1 (j:=1) rfl;have p2:=HB.out.cell1 (j:=2) rfl;have q0:=HB.out.fO (j:=0) rfl;have q1:=HB.out.fO (j:=1) rfl;have q2:=HB.out.fO (j:=2) rfl;clear h1 h2 r1 r2 r1' r2' hR;by_cases hk : k1 = k2
  case neg=>
    have Hf:=Lib.hid (Hk.out hk);have hs:=dH hk;unfold aJ at Hf;clear hk Hk Ho Hv R1 R2;go_enter Tryz.func112,Tryz.ntmps112;go_wp2_with fail;go_ret;exact ⟨by rw [Hf.out]; rfl,HB.out.1.1⟩
  have hs:=cu hk;by_cases ho : o1 = o2
  case neg=>
    have Hf:=Lib.hid (Ho.out hk ho);have hn : (o1 != o2) = true:=bne_iff_ne.2 ho;clear hk ho Hk Ho Hv R1 R2;go_enter Tryz.func112,Tryz.ntmps112;go_wp2_with fail;go_ret;exact ⟨by rw [Hf.out]; rfl,HB.out.1.1⟩
  have hn : (o1 != o2) = false:=(by simp [ho]);have Hf:=Lib.hid (Hv.out hk ho);clear hk ho Hk Ho Hv;go_enter Tryz.func112,Tryz.ntmps112;go_wp2_with fail;clear p0 p1 p2 q0 q1 q2 hs hn
  go_loopw [5] (fun i wr=>∃ j : Nat,j ≤ l1.length ∧ j ≤ l2.length ∧ i = .int .i64 j ∧ Hid (∀ q (_ : q < j) (h1 : q < l1.length) (h2 : q < l2.length),l1[q] = l2[q]) ∧ oQ 69 w [.string k1,.int .i64 o1,.slice A1 l1.length c1] [.string k2,.int .i64 o2,.slice A2 l2.length c2] wr) (fun i _=>l1.length - (intOf i).toNat)
  case atStart=>exact ⟨0,Nat.zero_le _,Nat.zero_le _,rfl,fun q hq=>by omega,HB.out⟩
  case round=>
    clear HB;obtain ⟨j,hj1,hj2,rfl,hall,pY⟩:=hrel;have p2:=pY.cell1 (j:=2) rfl;have q2:=pY.fO (j:=2) rfl;have Bd:=Lib.hid pY;by_cases hlt : j < l1.length ∧ j < l2.length
    · obtain ⟨hlt1,hlt2⟩:=hlt;have hbw:=pY.1.1;obtain ⟨g,o,rfl,hg,hc⟩:=(R1.out.below hbw).2 (by omega);obtain ⟨g',o',rfl,hg',hc'⟩:=(R2.out.below hbw).2 (by omega);have b1 : w.heap.size < wr.heap.size:=aX pY.1.2;have b2 : w.heap.size + 1 < wr.heap.size:=aX pY.2;have e1 : ∀ p : ak wr,p.v.cell? ⟨g,o + j,none⟩ = some (.string l1[j]):=fun p=>p.cell hg (hc j hlt1 _ (bV l1 j hlt1));have e2 : ∀ p : ak wr,p.v.cell? ⟨g',o' + j,none⟩ = some (.string l2[j]):=fun p=>p.cell hg' (hc' j hlt2 _ (bV l2 j hlt2));have P2 : ∀ p : ak wr,p.v.cell? ⟨w.heap.size,2,none⟩ = some (.slice (some ⟨g,o,none⟩) l1.length c1):=fun p=>p.cell b1 p2;have Q2 : ∀ p : ak wr,p.v.cell? ⟨w.heap.size + 1,2,none⟩ = some (.slice (some ⟨g',o',none⟩) l2.length c2):=fun p=>p.cell b2 q2;have hj0 : (0 : Int) ≤ (j : Int):=(by omega);have aex : (j : Int) < (l1.length : Int):=(by omega);have aey : (j : Int) < (l2.length : Int):=(by omega);by_cases he : l1[j] = l2[j]
      · have hs:=cu he
        have jK : Hid (∀ q (_ : q < j + 1) (h1 : q < l1.length) (h2 : q < l2.length),l1[q] = l2[q]):=fun q hq h1 h2=>by
          by_cases e : q = j
          · subst e; exact he
          · exact hall.out q (by omega) h1 h2
        clear he hall hc hc' pY hbw hg hg';generalize l1[j] = a at e1 hs;generalize l2[j] = b at e2 hs;go_wp2_with fail;refine wp_region_quiet_below (by kernel_rfl) (by kernel_rfl) ?_
        repeat (refine @wpQuiet_step _ _ _ _ _ _ _ ?_; intro K hK; go_simp; refine hK _ ?_; clear hK K)
        refine wpQuiet_nil ?_;intro _ hw';obtain ⟨p,rfl⟩:=hw';go_wp2_with fail
        go_roundw
        case rel=>exact ⟨j + 1,by omega,by omega,by go_num,jK.out,Bd.out.below p.h⟩
        case measure=>simp [intOf]; omega
      · have hs:=dH he;have Ws:=Lib.hid (Hf.out.trans (Fg hlt1 hlt2 (fun q hq=>hall.out q hq (by omega) (by omega)) he));unfold aJ at Ws;clear he hall hc hc' pY hbw hg hg' Hf;generalize l1[j] = a at e1 hs Ws;generalize l2[j] = b at e2 hs Ws;go_wp2_with fail;refine wp_region_quiet_below (by kernel_rfl) (by kernel_rfl) ?_
        repeat (refine @wpQuiet_step _ _ _ _ _ _ _ ?_; intro K hK; go_simp; refine hK _ ?_; clear hK K)
        refine wpQuiet_nil ?_;intro _ hw';obtain ⟨p,rfl⟩:=hw';have E1 : ∀ p' : ak p.v,p'.v.cell? ⟨g,o + j,none⟩ = some (.string a):=fun p'=>e1 ⟨p'.v,p.h.trans (p'.h.mono p.h.size)⟩;have E2 : ∀ p' : ak p.v,p'.v.cell? ⟨g',o' + j,none⟩ = some (.string b):=fun p'=>e2 ⟨p'.v,p.h.trans (p'.h.mono p.h.size)⟩;have P3 : ∀ p' : ak p.v,p'.v.cell? ⟨w.heap.size,2,none⟩ = some (.slice (some ⟨g,o,none⟩) l1.length c1):=fun p'=>P2 ⟨p'.v,p.h.trans (p'.h.mono p.h.size)⟩;have Q3 : ∀ p' : ak p.v,p'.v.cell? ⟨w.heap.size + 1,2,none⟩ = some (.slice (some ⟨g',o',none⟩) l2.length c2):=fun p'=>Q2 ⟨p'.v,p.h.trans (p'.h.mono p.h.size)⟩;have Hb3:=Lib.hid (Bd.out.below p.h);clear e1 e2 P2 Q2 p2 q2;generalize p.v = wp at E1 E2 P3 Q3 Hb3 ⊢;go_wp2_with fail;refine wp_region_quiet_below (by kernel_rfl) (by kernel_rfl) ?_
        repeat (refine @wpQuiet_step _ _ _ _ _ _ _ ?_; intro K hK; go_simp; refine hK _ ?_; clear hK K)
        refine wpQuiet_nil ?_;intro _ hw';obtain ⟨p',rfl⟩:=hw';go_wp2_with fail;go_ret;exact ⟨by rw [Ws.out]; rfl,(Hb3.out.below p'.h).1.1⟩
    · have Ws:=Lib.hid (Hf.out.trans (Ch (fun q h1 h2=>hall.out q (by omega) h1 h2)));clear hall pY Hf R1 R2;by_cases hl1 : j < l1.length
      · have hl2 : ¬ j < l2.length:=fun h=>hlt ⟨hl1,h⟩;clear hlt;go_wp2_with fail;go_ret;exact ⟨by rw [Ws.out]; rfl,Bd.out.1.1⟩
      · clear hlt;go_wp2_with fail;go_ret;exact ⟨by rw [Ws.out]; rfl,Bd.out.1.1⟩
end need
namespace need
open Go.ChangeShapes Go.WideShapes Go.ChangeAt Go.RowKit ty lab
theorem rE {w wr : World} {f : Nat} {A : Option Addr} {l : List Need} (h : mg Need.row w f A l 3) (hb : Below w.heap.size w wr) {j : Nat} (hj : j < l.length) :
    ∃ g o A2 c2,A = some ⟨g,o,none⟩ ∧ (∀ p : ak wr,p.v.cell? ⟨g,o + j * 3,none⟩ = some (.string l[j].key)) ∧ (∀ p : ak wr,p.v.cell? ⟨g,o + j * 3 + 1,none⟩ = some (.int .i64 l[j].op)) ∧
      (∀ p : ak wr,p.v.cell? ⟨g,o + j * 3 + 2,none⟩ = some (.slice A2 l[j].values.length c2)) ∧ ∀ p : ak wr,aH p.v f [.string l[j].key,.int .i64 l[j].op,.slice A2 l[j].values.length c2] l[j].row:=by
  obtain ⟨g,o,rfl,hg,us,kN,hc,hls⟩:=(h.below hb).get hj;have eZ:=hls;obtain ⟨A2,c2,rfl,_⟩:=Need.opened hls;exact ⟨g,o,A2,c2,rfl,fun p=>p.cell hg (hc 0 _ rfl),fun p=>p.cell hg (hc 1 _ rfl),fun p=>p.cell hg (hc 2 _ rfl),fun p=>eZ.kept p.h.block⟩
end need
namespace need
open Go.ChangeShapes Go.WideShapes Go.ChangeAt Go.RowKit ty lab
set_option maxRecDepth 100000 in
set_option maxHeartbeats 16000000 in
theorem FJ (l : List Need) (f : Nat) (v : Value) (w : World) (h : bf w f v (.sl 3 l.length (l.flatMap Need.row))) (hw : l.length + bH Need.wt l ≤ 1048576) :
    Calls Tryz.prog 54 #[v] w fun e w'=>e = .returned (.bool (yes (mF l))) ∧ Below w.heap.size w w':=by
  obtain ⟨A,c,rfl,hc1,hc2,f',rfl,hk⟩:=bD Need.au h;unfold maxLen at hc2;obtain ⟨R,hR⟩ : ∃ R,yes (mF l) = R:=⟨_,rfl⟩;rw [hR];have Hno : Hid (¬ mF l → R = false):=fun h=>by rw [← hR]; exact aP h
  have aG : Hid (mF l → R = true):=fun h=>by rw [← hR]; exact aQ h
  have Nq : Hid (∀ j (h : j < l.length),l[j].wt ≤ 1048576):=fun j h=>by have:=ko Need.wt h; omega
  have Hk:=Lib.hid hk;clear h hk hR hw;by_cases h6 : 4 < l.length
  · have Hf:=Lib.hid (Hno.out fun h2=>by have:=h2.1; omega);go_enter Tryz.func54,Tryz.ntmps54;go_wp2_with fail;go_ret;exact ⟨by rw [Hf.out]; rfl,Below.refl _ _⟩
  have qD:=Lib.hid (fun h3=>aG.out ⟨by omega,h3⟩);go_enter Tryz.func54,Tryz.ntmps54;go_wp2_with fail
  go_loopw [3] (fun i wr=>∃ j : Nat,j ≤ l.length ∧ i = .int .i64 j ∧ Hid (qy l j) ∧ Below w.heap.size w wr) (fun i _=>l.length - (intOf i).toNat)
  case atStart=>exact ⟨0,Nat.zero_le _,rfl,fun i hi hj=>by omega,Below.refl _ _⟩
  case round=>
    obtain ⟨j,hj,rfl,hgood,hbel⟩:=hrel;have bg:=Lib.hid hbel;by_cases hlt : j < l.length
    · obtain ⟨g,o,A2,c2,rfl,q0,q1,q2,hls⟩:=rE Hk.out hbel hlt;have HN:=Lib.hid (fun p : ak wr=>KG l[j] f' _ p.v (hls p) (Nq.out j hlt));have Hls:=Lib.hid hls;have hj0 : (0 : Int) ≤ (j : Int):=(by omega);have hjn : (j : Int) < (l.length : Int):=(by omega);by_cases hP : lU l[j]
      case neg=>
        have Hf:=Lib.hid (Hno.out fun h2=>hP (h2.2 j hlt hlt).1);rw [aP hP] at HN;clear hP qD Hno aG hgood hls Hls Nq Hk;generalize l[j] = x at q0 q1 q2 HN;go_wp2_with fail;refine wp_region_quiet_below (by kernel_rfl) (by kernel_rfl) ?_
        repeat (refine @wpQuiet_step _ _ _ _ _ _ _ ?_; intro K hK; go_simp; first | (refine hK _ ?_; clear hK K) | (apply Exists.intro; refine ⟨fun _=>?_,hK _ ?_⟩; (first | (go_at_call 119; exact Calls.aF (HN.out _))); clear hK K))
        refine wpQuiet_nil ?_;intro _ hw';obtain ⟨p,rfl⟩:=hw';go_wp2_with fail;go_ret;exact ⟨by rw [Hf.out]; rfl,bg.out.trans (p.h.mono bg.out.size)⟩
      rw [aQ hP] at HN;by_cases hz : j = 0
      · have Hg:=Lib.hid (pX hgood.out hlt hP (fun m hm=>by omega));have hn0 : ¬ (0 : Int) < (j : Int):=(by omega);have hn1 : ¬ 0 < j:=(by omega);clear hP qD Hno aG hgood hls Hls Nq Hk hz;generalize l[j] = x at q0 q1 q2 HN;go_wp2_with fail;refine wp_region_quiet_below (by kernel_rfl) (by kernel_rfl) ?_
        repeat (refine @wpQuiet_step _ _ _ _ _ _ _ ?_; intro K hK; go_simp; first | (refine hK _ ?_; clear hK K) | (apply Exists.intro; refine ⟨fun _=>?_,hK _ ?_⟩; (first | (go_at_call 119; exact Calls.aF (HN.out _))); clear hK K))
        refine wpQuiet_nil ?_;intro _ hw';obtain ⟨p,rfl⟩:=hw';go_wp2_with fail
        go_roundw
        case rel=>exact ⟨j + 1,by omega,by go_num,Hg.out,bg.out.trans (p.h.mono bg.out.size)⟩
        case measure=>simp [intOf]; omega
      obtain ⟨m,hm⟩ : ∃ m,m + 1 = j:=⟨j - 1,by omega⟩;have hml : m < l.length:=(by omega);obtain ⟨g',o',A3,c3,hA3,r0,r1,r2,eZ⟩:=rE Hk.out hbel hml;injection hA3 with hA3;injection hA3 with e1 e2;subst e1 e2;have HL:=Lib.hid (fun p : ak wr=>pq l[m] l[j] f' f' _ _ p.v (eZ p) (hls p));have yZ : (j : Int) - 1 = (m : Int):=(by omega);have BN : IntKind.i64.wrap (m : Int) = (m : Int):=IntWalk.i64_in _ (by omega);have hm0 : (0 : Int) ≤ (m : Int):=(by omega);have hm1 : (m : Int) < (l.length : Int):=(by omega);have hjp : (0 : Int) < (j : Int):=(by omega);have Dw : 0 < j:=(by omega);cases hb : dA l[m] l[j] with
      | true=>
        have Hg:=Lib.hid (pX hgood.out hlt hP (fun m' hm'=>by
                                                                          obtain rfl : m' = m:=(by omega);exact hb))
        rw [hb] at HL;clear hP qD Hno aG hgood hls Hls eZ Nq Hk hz hm hb;generalize l[j] = x at q0 q1 q2 HN HL;generalize l[m] = y at r0 r1 r2 HL;go_wp2_with fail;refine wp_region_quiet_below (by kernel_rfl) (by kernel_rfl) ?_
        repeat (refine @wpQuiet_step _ _ _ _ _ _ _ ?_; intro K hK; go_simp; first | (refine hK _ ?_; clear hK K) | (apply Exists.intro; refine ⟨fun _=>?_,hK _ ?_⟩; (first | (go_at_call 119; exact Calls.aF (HN.out _)) | (go_at_call 112; exact Calls.aF (HL.out _))); clear hK K))
        refine wpQuiet_nil ?_;intro _ hw';obtain ⟨p,rfl⟩:=hw';go_wp2_with fail
        go_roundw
        case rel=>exact ⟨j + 1,by omega,by go_num,Hg.out,bg.out.trans (p.h.mono bg.out.size)⟩
        case measure=>simp [intOf]; omega
      | false=>
        have Hf:=Lib.hid (Hno.out fun h2=>by rw [(h2.2 j hlt hlt).2 m hm] at hb; cases hb);rw [hb] at HL;clear hP qD Hno aG hgood hls Hls eZ Nq Hk hz hm hb;generalize l[j] = x at q0 q1 q2 HN HL;generalize l[m] = y at r0 r1 r2 HL;go_wp2_with fail;refine wp_region_quiet_below (by kernel_rfl) (by kernel_rfl) ?_
        repeat (refine @wpQuiet_step _ _ _ _ _ _ _ ?_; intro K hK; go_simp; first | (refine hK _ ?_; clear hK K) | (apply Exists.intro; refine ⟨fun _=>?_,hK _ ?_⟩; (first | (go_at_call 119; exact Calls.aF (HN.out _)) | (go_at_call 112; exact Calls.aF (HL.out _))); clear hK K))
        refine wpQuiet_nil ?_;intro _ hw';obtain ⟨p,rfl⟩:=hw';go_wp2_with fail;go_ret;exact ⟨by rw [Hf.out]; rfl,bg.out.trans (p.h.mono bg.out.size)⟩
    · obtain rfl : j = l.length:=(by omega);have Hf:=Lib.hid (qD.out hgood.out);clear hgood hbel;go_wp2_with fail;go_ret;exact ⟨by rw [Hf.out]; rfl,bg.out⟩
end need
namespace ty
open Go Go.RowKit
def aj.cells (x : aj) : List Value:=[.string x.key,.bool x.equal,.string x.value,.int .i64 x.effect]
theorem aj.aD (x : aj) : x.cells.length = 4:=rfl
theorem aj.cells_one (x : aj) : ∀ u ∈ x.cells,u.oneCell' = true:=by intro u hu; simp [aj.cells] at hu; rcases hu with rfl | rfl | rfl | rfl <;> rfl
theorem iI {w : World} {f : Nat} {A : Option Addr} {l : List aj} (h : mg aj.row w f A l 4) : jI w A l.length 4 (l.flatMap aj.cells) ∧ ∀ x ∈ l,x.Wf:=flt.gI aj.aD (by decide) (fun _ _ _ _ h=>aj.opened h) h
theorem fB {w : World} {B : Nat} {e : TypeId} {v : Value} {l : List aj} (h : w.ownsRow B e 4 v l.length (l.flatMap aj.cells)) (hw : ∀ x ∈ l,x.Wf) : ∃ F,Own w B 2 v (.sl 4 l.length (l.flatMap aj.row)) F ∧ F.Nodup ∧ ∀ x ∈ F,B ≤ x ∧ x < w.heap.size:=flt.yS aj.au (fun _ h=>aj.owned h) h hw
instance Nr : Inhabited aj:=⟨⟨⟨#[]⟩,false,⟨#[]⟩,0⟩⟩
end ty
namespace draw
open Go.ChangeShapes Go.WideShapes Go.ChangeAt Go.RowKit ty
structure gW (m : Nat) (x : aj) : Prop where
  key : x.key.size ≤ m
  value : x.value.size ≤ m
  lo : -1 ≤ x.effect
  hi : x.effect ≤ 4
theorem gW.wf {m : Nat} {x : aj} (h : gW m x) (hm : m ≤ 1000) : x.Wf:=by
  exact ⟨by have:=h.key; unfold maxLen; omega,by have:=h.value; unfold maxLen; omega,Jl h.lo (by have:=h.hi; omega)⟩
theorem TryzsizeTo : (Tryz.prog.info? 86).map (·.size) = some 4:=by kernel_rfl
set_option maxRecDepth 1000000 in
set_option maxHeartbeats 16000000 in
theorem JD (c : Nat) (A : Option Addr) (len cap : Nat) (z : Nat → Int) (w : World) (hc : jJ w c A len cap z) :
    Calls Tryz.prog 191 #[.pointer (some ⟨c,0,none⟩)] w (Km aj.cells (gW 5) c A len cap z w):=by
  have aL:=hc.lt;obtain ⟨W,hW⟩ : ∃ W,W = w.alloc (.cells #[.string ⟨#[]⟩,.bool false,.string ⟨#[]⟩,.int .i64 0] 86):=⟨_,rfl⟩;have S0:=Lib.hid (show vF w c A len cap z 86 [.string ⟨#[]⟩,.bool false,.string ⟨#[]⟩,.int .i64 0] W by rw [hW]; exact vF.new hc);have HW:=Lib.hid hW;have DC:=Lib.hid (mO c A len cap z W S0.out.cur);clear hc hW;go_enter Tryz.func191,Tryz.ntmps191;go_wp2_with fail;rw [← HW.out];go_wp2_with fail;refine DC.out.mono ?_;rintro e w1 ⟨k,hk,rfl,hc1,hg1⟩;have S1:=Lib.hid (S0.out.turn aL hc1 hg1);have HB:=Lib.hid (bM c A len cap z 3 w1 hc1 (by decide) (by decide));clear hc1 hg1 DC S0;go_wp2_with fail;refine HB.out.mono ?_;rintro e w2 ⟨n,hn,rfl,hc2,hg2⟩;have hb1 : w.heap.size < w2.heap.size:=aX (aC.cur S1.out.zero hg2 (by omega));have S1:=Lib.hid ((S1.out.turn aL hc2 hg2).box (us:=[.string k,.bool false,.string ⟨#[]⟩,.int .i64 n]) aL);obtain ⟨X,hX⟩ : ∃ X,X = w2.alloc (.cells #[.string k,.bool false,.string ⟨#[]⟩,.int .i64 n] 86):=⟨_,rfl⟩;have HX:=Lib.hid hX;have S2:=Lib.hid (show tC w c A len cap z 86 [.string ⟨#[]⟩,.bool false,.string ⟨#[]⟩,.int .i64 0] w2.heap.size [.string k,.bool false,.string ⟨#[]⟩,.int .i64 n] X by rw [hX]; exact S1.out);have HO:=Lib.hid (iQ c A len cap z 2 X S2.out.cur (by decide) (by decide));obtain ⟨b,hb⟩ : ∃ b,b = w2.heap.size:=⟨_,rfl⟩;have Hb:=Lib.hid hb;rw [← hb] at hb1 S2;clear hc2 hg2 HB S1 hX hb;go_wp2_with fail;rw [← HX.out,← Hb.out];refine HO.out.mono ?_;rintro e w3 ⟨q,rfl,hc3,hg3⟩;have S3:=Lib.hid (S2.out.turn aL hb1 hc3 hg3);clear hg3 HO S2;cases q with
  | true=>
    have p1:=S3.out.mine.cell 1 _ rfl;have f1:=aC.frozen S3.out.mine 1;have S4:=Lib.hid (S3.out.put aL hb1 1 (.bool true));obtain ⟨w4,hw4⟩ : ∃ w4,w4 = w3.setCell ⟨b,1,none⟩ (.bool true):=⟨_,rfl⟩;have Hw4:=Lib.hid hw4;rw [← hw4] at S4;have HV:=Lib.hid (mP c A len cap z w4 S4.out.cur);clear hc3 S3 hw4;go_wp2_with fail;rw [← Hw4.out];refine HV.out.mono ?_;rintro e w5 ⟨y,hy,rfl,mH,hg5⟩;have S5:=Lib.hid (S4.out.turn aL hb1 mH hg5);have p2:=S5.out.mine.cell 2 _ rfl;have f2:=aC.frozen S5.out.mine 2;have S6:=Lib.hid (S5.out.put aL hb1 2 (.string y));clear mH hg5 HV S4 S5;have HR:=Lib.hid (S6.out.done (enc:=aj.cells) (P:=(gW 5)) (x:=⟨k,true,y,n⟩) aL (⟨hk,by show y.size ≤ 5; omega,by show -1 ≤ n; omega,by show n ≤ 4; omega⟩));have bJ : (w5.setCell ⟨b,2,none⟩ (.string y)).heap[w.heap.size]? = some (.cells #[.string ⟨#[]⟩,.bool false,.string ⟨#[]⟩,.int .i64 0] 86 (0,0)):=S6.out.zero;have tF:=Lib.hid bJ;have dJ : (w5.setCell ⟨b,2,none⟩ (.string y)).heap[b]? = some (.cells #[.string k,.bool true,.string y,.int .i64 n] 86 (0,0)):=S6.out.mine;go_wp2_with (first | (refine wpList_load_row rfl 86 _ rfl b rfl 86 #[.string k,.bool true,.string y,.int .i64 n] (0,0) _ dJ Tryz.underlying86 rfl TryzsizeTo ?_) | (refine wpList_store_row rfl 86 _ _ rfl w.heap.size #[.string k,.bool true,.string y,.int .i64 n] rfl rfl 86 _ bJ TryzsizeTo rfl (by simp [Value.oneCell']) ?_) | fail);refine bodyPost_ret (v:=.agg #[.string k,.bool true,.string y,.int .i64 n]) ?_ rfl HR.out;exact results_cell_row rfl _ _ w.heap.size _ _ (0,0) _ rfl (aI tF.out) Tryz.underlying86 rfl TryzsizeTo
  | false=>
    have HO:=Lib.hid (iQ c A len cap z 3 w3 hc3 (by decide) (by decide));clear hc3;go_wp2_with fail;refine HO.out.mono ?_;rintro e w4 ⟨q,rfl,hc4,hg4⟩;have S4:=Lib.hid (S3.out.turn aL hb1 hc4 hg4);clear hc4 hg4 HO S3;cases q with
    | true=>
      have p0:=S4.out.mine.cell 0 _ rfl;have f0:=aC.frozen S4.out.mine 0;have S5:=Lib.hid (S4.out.put aL hb1 0 (.string ⟨#[]⟩));have HR:=Lib.hid (S5.out.done (enc:=aj.cells) (P:=(gW 5)) (x:=⟨⟨#[]⟩,false,⟨#[]⟩,n⟩) aL (⟨by show (⟨#[]⟩ : ByteArray).size ≤ 5; decide,by show (⟨#[]⟩ : ByteArray).size ≤ 5; decide,by show -1 ≤ n; omega,by show n ≤ 4; omega⟩));have bJ : (w4.setCell ⟨b,0,none⟩ (.string ⟨#[]⟩)).heap[w.heap.size]? = some (.cells #[.string ⟨#[]⟩,.bool false,.string ⟨#[]⟩,.int .i64 0] 86 (0,0)):=S5.out.zero;have tF:=Lib.hid bJ;have dJ : (w4.setCell ⟨b,0,none⟩ (.string ⟨#[]⟩)).heap[b]? = some (.cells #[.string ⟨#[]⟩,.bool false,.string ⟨#[]⟩,.int .i64 n] 86 (0,0)):=S5.out.mine;go_wp2_with (first | (refine wpList_load_row rfl 86 _ rfl b rfl 86 #[.string ⟨#[]⟩,.bool false,.string ⟨#[]⟩,.int .i64 n] (0,0) _ dJ Tryz.underlying86 rfl TryzsizeTo ?_) | (refine wpList_store_row rfl 86 _ _ rfl w.heap.size #[.string ⟨#[]⟩,.bool false,.string ⟨#[]⟩,.int .i64 n] rfl rfl 86 _ bJ TryzsizeTo rfl (by simp [Value.oneCell']) ?_) | fail);refine bodyPost_ret (v:=.agg #[.string ⟨#[]⟩,.bool false,.string ⟨#[]⟩,.int .i64 n]) ?_ rfl HR.out;exact results_cell_row rfl _ _ w.heap.size _ _ (0,0) _ rfl (aI tF.out) Tryz.underlying86 rfl TryzsizeTo
    | false=>
      have HR:=Lib.hid (S4.out.done (enc:=aj.cells) (P:=(gW 5)) (x:=⟨k,false,⟨#[]⟩,n⟩) aL (⟨hk,by show (⟨#[]⟩ : ByteArray).size ≤ 5; decide,by show -1 ≤ n; omega,by show n ≤ 4; omega⟩));have bJ : (w4).heap[w.heap.size]? = some (.cells #[.string ⟨#[]⟩,.bool false,.string ⟨#[]⟩,.int .i64 0] 86 (0,0)):=S4.out.zero;have tF:=Lib.hid bJ;have dJ : (w4).heap[b]? = some (.cells #[.string k,.bool false,.string ⟨#[]⟩,.int .i64 n] 86 (0,0)):=S4.out.mine;go_wp2_with (first | (refine wpList_load_row rfl 86 _ rfl b rfl 86 #[.string k,.bool false,.string ⟨#[]⟩,.int .i64 n] (0,0) _ dJ Tryz.underlying86 rfl TryzsizeTo ?_) | (refine wpList_store_row rfl 86 _ _ rfl w.heap.size #[.string k,.bool false,.string ⟨#[]⟩,.int .i64 n] rfl rfl 86 _ bJ TryzsizeTo rfl (by simp [Value.oneCell']) ?_) | fail);refine bodyPost_ret (v:=.agg #[.string k,.bool false,.string ⟨#[]⟩,.int .i64 n]) ?_ rfl HR.out;exact results_cell_row rfl _ _ w.heap.size _ _ (0,0) _ rfl (aI tF.out) Tryz.underlying86 rfl TryzsizeTo
set_option maxRecDepth 1000000 in
set_option maxHeartbeats 16000000 in
theorem Ij (c : Nat) (A : Option Addr) (len cap : Nat) (z : Nat → Int) (w : World) (hc : jJ w c A len cap z) :
    Calls Tryz.prog 152 #[.pointer (some ⟨c,0,none⟩)] w (Km aj.cells (gW 5) c A len cap z w):=by
  have aL:=hc.lt;obtain ⟨W,hW⟩ : ∃ W,W = w.alloc (.cells #[.string ⟨#[]⟩,.bool false,.string ⟨#[]⟩,.int .i64 0] 86):=⟨_,rfl⟩;have S0:=Lib.hid (show vF w c A len cap z 86 [.string ⟨#[]⟩,.bool false,.string ⟨#[]⟩,.int .i64 0] W by rw [hW]; exact vF.new hc);have HW:=Lib.hid hW;have DC:=Lib.hid (JD c A len cap z W S0.out.cur);clear hc hW;go_enter Tryz.func152,Tryz.ntmps152;go_wp2_with fail;rw [← HW.out];go_wp2_with fail;refine DC.out.mono ?_;rintro e w1 ⟨t,ht,rfl,hc1,hg1⟩;have hb1 : w.heap.size < w1.heap.size:=aX (aC.cur S0.out.zero hg1 (by omega));have S1:=Lib.hid ((S0.out.turn aL hc1 hg1).box (us:=[.string t.key,.bool t.equal,.string t.value,.int .i64 t.effect]) aL);obtain ⟨X,hX⟩ : ∃ X,X = w1.alloc (.cells #[.string t.key,.bool t.equal,.string t.value,.int .i64 t.effect] 86):=⟨_,rfl⟩;have HX:=Lib.hid hX;have S2:=Lib.hid (show tC w c A len cap z 86 [.string ⟨#[]⟩,.bool false,.string ⟨#[]⟩,.int .i64 0] w1.heap.size [.string t.key,.bool t.equal,.string t.value,.int .i64 t.effect] X by rw [hX]; exact S1.out);have HB:=Lib.hid (bM c A len cap z 10 X S2.out.cur (by decide) (by decide));obtain ⟨b,hb⟩ : ∃ b,b = w1.heap.size:=⟨_,rfl⟩;have Hb:=Lib.hid hb;rw [← hb] at hb1 S2;have ht1:=ht.key;have ht2:=ht.value;have ht3:=ht.lo;have Tv:=ht.hi;clear hc1 hg1 DC S0 S1 hX hb ht;obtain ⟨k,q,y,n⟩:=t;simp only [aj.cells] at *;go_wp2_with fail;rw [← HX.out,← Hb.out];refine HB.out.mono ?_;rintro e w2 ⟨x,hx,rfl,hc2,hg2⟩;have S3:=Lib.hid (S2.out.turn aL hb1 hc2 hg2);clear hg2 HB S2;by_cases x0 : x = 0
  · subst x0;have HB:=Lib.hid (bM c A len cap z 5 w2 hc2 (by decide) (by decide));clear hc2;go_wp2_with fail;refine HB.out.mono ?_;rintro e w3 ⟨m,hm,rfl,hc3,hg3⟩;have S4:=Lib.hid (S3.out.turn aL hb1 hc3 hg3);have BN : IntKind.i64.wrap (m - 1) = m - 1:=IntWalk.i64_in _ (by omega);obtain ⟨n2,hn2⟩ : ∃ n,m - 1 = n:=⟨_,rfl⟩;rw [hn2] at BN;have hm1 : -1 ≤ n2:=(by omega);have hm2 : n2 ≤ 3:=(by omega);have p3:=S4.out.mine.cell 3 _ rfl;have f3:=aC.frozen S4.out.mine 3;have S5:=Lib.hid (S4.out.put aL hb1 3 (.int .i64 n2));clear hc3 hg3 HB S3 hm;have HR:=Lib.hid (S5.out.done (enc:=aj.cells) (P:=(gW 5)) (x:=⟨k,q,y,n2⟩) aL (⟨ht1,ht2,hm1,by show n2 ≤ 4; omega⟩));have bJ : (w3.setCell ⟨b,3,none⟩ (.int .i64 n2)).heap[w.heap.size]? = some (.cells #[.string ⟨#[]⟩,.bool false,.string ⟨#[]⟩,.int .i64 0] 86 (0,0)):=S5.out.zero;have tF:=Lib.hid bJ;have dJ : (w3.setCell ⟨b,3,none⟩ (.int .i64 n2)).heap[b]? = some (.cells #[.string k,.bool q,.string y,.int .i64 n2] 86 (0,0)):=S5.out.mine;go_wp2_with (first | (refine wpList_load_row rfl 86 _ rfl b rfl 86 #[.string k,.bool q,.string y,.int .i64 n2] (0,0) _ dJ Tryz.underlying86 rfl TryzsizeTo ?_) | (refine wpList_store_row rfl 86 _ _ rfl w.heap.size #[.string k,.bool q,.string y,.int .i64 n2] rfl rfl 86 _ bJ TryzsizeTo rfl (by simp [Value.oneCell']) ?_) | fail);refine bodyPost_ret (v:=.agg #[.string k,.bool q,.string y,.int .i64 n2]) ?_ rfl HR.out;exact results_cell_row rfl _ _ w.heap.size _ _ (0,0) _ rfl (aI tF.out) Tryz.underlying86 rfl TryzsizeTo
  have x0' : (x == 0) = false:=beq_eq_false_iff_ne.2 x0;by_cases x1 : x = 1
  · subst x1;have p1:=S3.out.mine.cell 1 _ rfl;have f1:=aC.frozen S3.out.mine 1;have S5:=Lib.hid (S3.out.put aL hb1 1 (.bool (!q)));clear hc2 hx x0;have HR:=Lib.hid (S5.out.done (enc:=aj.cells) (P:=(gW 5)) (x:=⟨k,!q,y,n⟩) aL (⟨ht1,ht2,ht3,Tv⟩));have bJ : (w2.setCell ⟨b,1,none⟩ (.bool (!q))).heap[w.heap.size]? = some (.cells #[.string ⟨#[]⟩,.bool false,.string ⟨#[]⟩,.int .i64 0] 86 (0,0)):=S5.out.zero;have tF:=Lib.hid bJ;have dJ : (w2.setCell ⟨b,1,none⟩ (.bool (!q))).heap[b]? = some (.cells #[.string k,.bool (!q),.string y,.int .i64 n] 86 (0,0)):=S5.out.mine;go_wp2_with (first | (refine wpList_load_row rfl 86 _ rfl b rfl 86 #[.string k,.bool (!q),.string y,.int .i64 n] (0,0) _ dJ Tryz.underlying86 rfl TryzsizeTo ?_) | (refine wpList_store_row rfl 86 _ _ rfl w.heap.size #[.string k,.bool (!q),.string y,.int .i64 n] rfl rfl 86 _ bJ TryzsizeTo rfl (by simp [Value.oneCell']) ?_) | fail);refine bodyPost_ret (v:=.agg #[.string k,.bool (!q),.string y,.int .i64 n]) ?_ rfl HR.out;exact results_cell_row rfl _ _ w.heap.size _ _ (0,0) _ rfl (aI tF.out) Tryz.underlying86 rfl TryzsizeTo
  have x1' : (x == 1) = false:=beq_eq_false_iff_ne.2 x1;by_cases x2 : x = 2
  · subst x2;have p2:=S3.out.mine.cell 2 _ rfl;have f2:=aC.frozen S3.out.mine 2;have S5:=Lib.hid (S3.out.put aL hb1 2 (.string ⟨#[97,47,98]⟩));clear hc2 hx x0 x1;have HR:=Lib.hid (S5.out.done (enc:=aj.cells) (P:=(gW 5)) (x:=⟨k,q,⟨#[97,47,98]⟩,n⟩) aL (⟨ht1,by show (⟨#[97,47,98]⟩ : ByteArray).size ≤ 5; decide,ht3,Tv⟩));have bJ : (w2.setCell ⟨b,2,none⟩ (.string ⟨#[97,47,98]⟩)).heap[w.heap.size]? = some (.cells #[.string ⟨#[]⟩,.bool false,.string ⟨#[]⟩,.int .i64 0] 86 (0,0)):=S5.out.zero;have tF:=Lib.hid bJ;have dJ : (w2.setCell ⟨b,2,none⟩ (.string ⟨#[97,47,98]⟩)).heap[b]? = some (.cells #[.string k,.bool q,.string ⟨#[97,47,98]⟩,.int .i64 n] 86 (0,0)):=S5.out.mine;go_wp2_with (first | (refine wpList_load_row rfl 86 _ rfl b rfl 86 #[.string k,.bool q,.string ⟨#[97,47,98]⟩,.int .i64 n] (0,0) _ dJ Tryz.underlying86 rfl TryzsizeTo ?_) | (refine wpList_store_row rfl 86 _ _ rfl w.heap.size #[.string k,.bool q,.string ⟨#[97,47,98]⟩,.int .i64 n] rfl rfl 86 _ bJ TryzsizeTo rfl (by simp [Value.oneCell']) ?_) | fail);refine bodyPost_ret (v:=.agg #[.string k,.bool q,.string ⟨#[97,47,98]⟩,.int .i64 n]) ?_ rfl HR.out;exact results_cell_row rfl _ _ w.heap.size _ _ (0,0) _ rfl (aI tF.out) Tryz.underlying86 rfl TryzsizeTo
  have x2' : (x == 2) = false:=beq_eq_false_iff_ne.2 x2;clear hc2 hx x0 x1 x2;have HR:=Lib.hid (S3.out.done (enc:=aj.cells) (P:=(gW 5)) (x:=⟨k,q,y,n⟩) aL (⟨ht1,ht2,ht3,Tv⟩));have bJ : (w2).heap[w.heap.size]? = some (.cells #[.string ⟨#[]⟩,.bool false,.string ⟨#[]⟩,.int .i64 0] 86 (0,0)):=S3.out.zero;have tF:=Lib.hid bJ;have dJ : (w2).heap[b]? = some (.cells #[.string k,.bool q,.string y,.int .i64 n] 86 (0,0)):=S3.out.mine;go_wp2_with (first | (refine wpList_load_row rfl 86 _ rfl b rfl 86 #[.string k,.bool q,.string y,.int .i64 n] (0,0) _ dJ Tryz.underlying86 rfl TryzsizeTo ?_) | (refine wpList_store_row rfl 86 _ _ rfl w.heap.size #[.string k,.bool q,.string y,.int .i64 n] rfl rfl 86 _ bJ TryzsizeTo rfl (by simp [Value.oneCell']) ?_) | fail);refine bodyPost_ret (v:=.agg #[.string k,.bool q,.string y,.int .i64 n]) ?_ rfl HR.out;exact results_cell_row rfl _ _ w.heap.size _ _ (0,0) _ rfl (aI tF.out) Tryz.underlying86 rfl TryzsizeTo
end draw
end Go.Proofs.YtcfbkfmkjggcdaaGreatDoor
