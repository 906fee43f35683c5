/- Merged: SameLI SameNI SameCI SamePodI EqsTaintI SameCIh. -/
import Derived.Test.YtcfbkfmkjggcdaaGreatDoorGA0
import Derived.Test.YtcfbkfmkjggcdaaGreatDoorGA6
import Derived.Test.YtcfbkfmkjggcdaaGreatDoorGA16
import Derived.Test.YtcfbkfmkjggcdaaGreatDoorGA13
import Derived.Test.YtcfbkfmkjggcdaaGreatDoorGA14
import Derived.Test.YtcfbkfmkjggcdaaGreatDoorGA22
import Derived.Test.YtcfbkfmkjggcdaaGreatDoorGA5
import Derived.Laws.Cover1
import Derived.Test.YtcfbkfmkjggcdaaGreatDoorGA7
set_option linter.unusedVariables false
namespace Go.Proofs.YtcfbkfmkjggcdaaGreatDoor
namespace lab
open Go.ChangeShapes Go.WideShapes Go.ChangeAt Go.RowKit ty
set_option maxRecDepth 100000 in
set_option maxHeartbeats 8000000 in
theorem Rl (a b : List Label) (f1 f2 : Nat) (v1 v2 : Value) (w : World) (h1 : bf w f1 v1 (.sl 2 a.length (a.flatMap Label.row))) (h2 : bf w f2 v2 (.sl 2 b.length (b.flatMap Label.row))) :
    Calls Tryz.prog 121 #[v1,v2] w fun e w'=>e = .returned (.bool (yes (oO a b))) ∧ ∃ n,w' = w.drewN n:=by
  obtain ⟨A1,c1,rfl,hc1,hm1,f',rfl,hk1⟩:=bD Label.au h1;obtain ⟨A2,c2,rfl,hc2,hm2,f'',rfl,hk2⟩:=bD Label.au h2;unfold maxLen at hm1 hm2;obtain ⟨R,hR⟩ : ∃ R,yes (oO a b) = R:=⟨_,rfl⟩;rw [hR];have Hno : Hid (¬ oO a b → R = false):=fun h=>by rw [← hR]; exact aP h
  have aG : Hid (oO a b → R = true):=fun h=>by rw [← hR]; exact aQ h
  have J2:=Lib.hid hk1;have J3:=Lib.hid hk2;clear h1 h2 hk1 hk2 hR;by_cases hl : a.length = b.length
  case neg=>
    have Hf:=Lib.hid (Hno.out fun h=>hl h.1);have hn : ((a.length : Int) != (b.length : Int)) = true:=bne_iff_ne.2 (by omega);clear hl Hno aG;go_enter Tryz.func121,Tryz.ntmps121;go_wp2_with fail;go_ret;exact ⟨by rw [Hf.out]; rfl,0,rfl⟩
  obtain ⟨n,hn⟩ : ∃ n,n = a.length:=⟨_,rfl⟩;have hb : b.length = n:=(by omega);rw [← hn] at hc1;rw [hb] at hc2;rw [← hn,hb];have Hn:=Lib.hid hn;have Hb:=Lib.hid hb;clear hn hb hl;go_enter Tryz.func121,Tryz.ntmps121;go_wp2_with fail
  go_loopw [13] (fun i wr=>∃ j : Nat,j ≤ n ∧ i = .int .i64 j ∧ Hid (mU a b j) ∧ ∃ n,wr = w.drewN n) (fun i _=>n - (intOf i).toNat)
  case atStart=>exact ⟨0,Nat.zero_le _,rfl,fun i _ _ h=>by omega,0,rfl⟩
  case round=>
    obtain ⟨j,hj,rfl,hall,n0,hwr⟩:=hrel;have Hw : Hid (∃ n,wr = w.drewN n):=⟨n0,hwr⟩;by_cases hlt : j < n
    · have hla : j < a.length:=(by rw [← Hn.out]; exact hlt);have hlb : j < b.length:=(by rw [Hb.out]; exact hlt);obtain ⟨g1,o1,hA1,hg1,Ze,uU,jF,oI⟩:=J2.out.get hla;obtain ⟨g2,o2,hA2,hg2,MH,jD,jG,eZ⟩:=J3.out.get hlb;obtain ⟨rfl,uV⟩:=Label.opened oI;obtain ⟨rfl,dZ⟩:=Label.opened eZ;have q0 : wr.cell? ⟨g1,o1 + j * 2,none⟩ = some (.string a[j].key):=(by rw [hwr]; exact jF 0 _ rfl);have q1 : wr.cell? ⟨g1,o1 + j * 2 + 1,none⟩ = some (.string a[j].value):=(by rw [hwr]; exact jF 1 _ rfl);have r0 : wr.cell? ⟨g2,o2 + j * 2,none⟩ = some (.string b[j].key):=(by rw [hwr]; exact jG 0 _ rfl);have r1 : wr.cell? ⟨g2,o2 + j * 2 + 1,none⟩ = some (.string b[j].value):=(by rw [hwr]; exact jG 1 _ rfl);subst hA1 hA2;by_cases he : a[j].key = b[j].key
      · have hs:=cu he;by_cases he2 : a[j].value = b[j].value
        · have hs2:=cu he2
          have jK : Hid (mU a b (j + 1)):=fun i i1 i2 h=>by
            by_cases e : i = j
            · subst e; exact ⟨he,he2⟩
            · exact hall.out i i1 i2 (by omega)
          clear he he2 Hno aG hall oI eZ uU jD jF jG uV dZ hwr hg1 hg2;generalize a[j].key = x1 at q0 hs;generalize a[j].value = x2 at q1 hs2;generalize b[j].key = y1 at r0 hs;generalize b[j].value = y2 at r1 hs2;go_wp2_with fail
          go_quiet (fail)
          go_wp2_with fail
          go_roundw
          case rel=>exact ⟨j + 1,by omega,by go_num,jK.out,dU Hw.out _⟩
          case measure=>simp [intOf]; omega
        · have Hf:=Lib.hid (Hno.out fun h=>he2 (h.2 j hla hlb hla).2);have hs2:=dH he2;clear he he2 Hno aG hall oI eZ uU jD jF jG uV dZ hwr hg1 hg2;generalize a[j].key = x1 at q0 hs;generalize a[j].value = x2 at q1 hs2;generalize b[j].key = y1 at r0 hs;generalize b[j].value = y2 at r1 hs2;go_wp2_with fail
          go_quiet (fail)
          go_wp2_with fail;go_ret;exact ⟨by rw [Hf.out]; rfl,dU Hw.out _⟩
      · have Hf:=Lib.hid (Hno.out fun h=>he (h.2 j hla hlb hla).1);have hs:=dH he;clear he Hno aG hall oI eZ uU jD jF jG uV dZ hwr hg1 hg2;generalize a[j].key = x1 at q0 hs;generalize a[j].value = x2 at q1;generalize b[j].key = y1 at r0 hs;generalize b[j].value = y2 at r1;go_wp2_with fail
        go_quiet (fail)
        go_wp2_with fail;go_ret;exact ⟨by rw [Hf.out]; rfl,dU Hw.out _⟩
    · obtain rfl : j = n:=(by omega);have Hf : Hid (R = true):=aG.out ⟨by rw [Hb.out,Hn.out],by rw [← Hn.out]; exact hall.out⟩;clear hall hwr;go_wp2_with fail;go_ret;exact ⟨by rw [Hf.out]; rfl,Hw.out⟩
set_option maxRecDepth 100000 in
theorem CW (a b : List Label) (f1 f2 : Nat) (v1 v2 : Value) (w : World) (h1 : bf w f1 v1 (.sl 2 a.length (a.flatMap Label.row))) (h2 : bf w f2 v2 (.sl 2 b.length (b.flatMap Label.row))) :
    Calls Tryz.prog 56 #[v1,v2] w fun e w'=>e = .returned (.bool (yes (oO a b))) ∧ Below w.heap.size w w':=by
  have H:=Lib.hid (Rl a b f1 f2 v1 v2 w h1 h2);clear h1 h2;go_enter Tryz.func56,Tryz.ntmps56;go_wp2_with fail;refine H.out.mono ?_;rintro e w1 ⟨rfl,n,rfl⟩;go_wp2_with fail;go_ret;exact ⟨rfl,below_drewN (Below.refl _ _) n⟩
end lab
namespace need
open Go.ChangeShapes Go.WideShapes Go.ChangeAt Go.RowKit ty lab
set_option maxRecDepth 100000 in
set_option maxHeartbeats 4000000 in
theorem Rm (x y : Need) (f1 f2 : Nat) (us vs : List Value) (w : World) (h1 : aH w f1 us x.row) (h2 : aH w f2 vs y.row) :
    Calls Tryz.prog 123 #[.agg us.toArray,.agg vs.toArray] w fun e w'=>e = .returned (.bool (yes (x = y))) ∧ Gr w w':=by
  rw [← Cz];obtain ⟨A1,c1,rfl,_⟩:=Need.opened h1;obtain ⟨A2,c2,rfl,_⟩:=Need.opened h2;have HB:=Lib.hid (oQ.new 69 w [.string x.key,.int .i64 x.op,.slice A1 x.values.length c1] [.string y.key,.int .i64 y.op,.slice A2 y.values.length c2]);have HC:=Lib.hid (fun w' (hb : Below w.heap.size w w')=>Ea x y f1 f2 _ _ w' (h1.kept hb.block) (h2.kept hb.block));have p0:=HB.out.cell1 (j:=0) rfl;have p1:=HB.out.cell1 (j:=1) rfl;have p2:=HB.out.cell1 (j:=2) rfl;have q0:=HB.out.fO (j:=0) rfl;have q1:=HB.out.fO (j:=1) rfl;have q2:=HB.out.fO (j:=2) rfl;have HG:=Lib.hid (show Gr w _ from ((Gr.refl w).alloc (.cells #[.string x.key,.int .i64 x.op,.slice A1 x.values.length c1] 69)).alloc (.cells #[.string y.key,.int .i64 y.op,.slice A2 y.values.length c2] 69));clear h1 h2;generalize qJ x y = r at ⊢ HC;generalize x.key = k1 at p0 HC HB HG;generalize x.op = o1 at p1 HC HB HG;generalize x.values.length = n1 at p2 HC HB HG;generalize y.key = k2 at q0 HC HB HG;generalize y.op = o2 at q1 HC HB HG;generalize y.values.length = n2 at q2 HC HB HG;go_enter Tryz.func123,Tryz.ntmps123;go_wp2_with fail;refine (HC.out _ HB.out.1.1).mono ?_;rintro e x1 ⟨rfl,hg⟩;have G:=Lib.hid (HG.out.trans hg);clear hg;go_wp2_with fail;go_ret;exact ⟨by show Ending.returned (.bool (r == 0)) = _; rw [show (r == 0) = decide (r = 0) from by by_cases h : r = 0 <;> simp [h]],G.out⟩
set_option maxRecDepth 100000 in
set_option maxHeartbeats 16000000 in
theorem OX (a b : List Need) (f1 f2 : Nat) (v1 v2 : Value) (w : World) (h1 : bf w f1 v1 (.sl 3 a.length (a.flatMap Need.row))) (h2 : bf w f2 v2 (.sl 3 b.length (b.flatMap Need.row))) :
    Calls Tryz.prog 122 #[v1,v2,.func (.func 123) #[] #[]] w fun e w'=>e = .returned (.bool (yes (l8 a b))) ∧ Below w.heap.size w w':=by
  obtain ⟨A1,c1,rfl,hc1,hm1,f',rfl,hk1⟩:=bD Need.au h1;obtain ⟨A2,c2,rfl,hc2,hm2,f'',rfl,hk2⟩:=bD Need.au h2;unfold maxLen at hm1 hm2;obtain ⟨R,hR⟩ : ∃ R,yes (l8 a b) = R:=⟨_,rfl⟩;rw [hR];have Hno : Hid (¬ l8 a b → R = false):=fun h=>by rw [← hR]; exact aP h
  have aG : Hid (l8 a b → R = true):=fun h=>by rw [← hR]; exact aQ h
  have J2:=Lib.hid hk1;have J3:=Lib.hid hk2;clear h1 h2 hk1 hk2 hR;by_cases hl : a.length = b.length
  case neg=>
    have Hf:=Lib.hid (Hno.out fun h=>hl h.1);have hn : ((a.length : Int) != (b.length : Int)) = true:=bne_iff_ne.2 (by omega);clear hl Hno aG;go_enter Tryz.func122,Tryz.ntmps122;go_wp2_with fail;go_ret;exact ⟨by rw [Hf.out]; rfl,Below.refl _ _⟩
  obtain ⟨n,hn⟩ : ∃ n,n = a.length:=⟨_,rfl⟩;have hb : b.length = n:=(by omega);rw [← hn] at hc1;rw [hb] at hc2;rw [← hn,hb];have Hn:=Lib.hid hn;have Hb:=Lib.hid hb;clear hn hb hl;go_enter Tryz.func122,Tryz.ntmps122;go_wp2_with fail
  go_loopw [17] (fun i wr=>∃ j : Nat,j ≤ n ∧ i = .int .i64 j ∧ Hid (mU a b j) ∧ Below w.heap.size w wr) (fun i _=>n - (intOf i).toNat)
  case atStart=>exact ⟨0,Nat.zero_le _,rfl,fun i _ _ h=>by omega,Below.refl _ _⟩
  case round=>
    obtain ⟨j,hj,rfl,hall,hbel⟩:=hrel;have bg:=Lib.hid hbel;by_cases hlt : j < n
    · have hla : j < a.length:=(by rw [← Hn.out]; exact hlt);have hlb : j < b.length:=(by rw [Hb.out]; exact hlt);obtain ⟨g1,o1,A3,c3,rfl,q0,q1,q2,Rh⟩:=rE J2.out hbel hla;obtain ⟨g2,o2,A4,c4,rfl,r0,r1,r2,Ri⟩:=rE J3.out hbel hlb;have HC:=Lib.hid (fun w' (hb : Below wr.heap.size wr w')=>Rm a[j] b[j] _ _ _ _ w' (Rh ⟨w',hb⟩) (Ri ⟨w',hb⟩));have HB:=Lib.hid (oQ.new 69 wr [.string a[j].key,.int .i64 a[j].op,.slice A3 a[j].values.length c3] [.string b[j].key,.int .i64 b[j].op,.slice A4 b[j].values.length c4]);have hb1 : Below wr.heap.size wr (wr.alloc (.cells #[.string a[j].key,.int .i64 a[j].op,.slice A3 a[j].values.length c3] 69)):=(Below.refl _ _).alloc (Nat.le_refl _) _;have q0:=q0 ⟨wr,Below.refl _ _⟩;have q1:=q1 ⟨wr,Below.refl _ _⟩;have q2:=q2 ⟨wr,Below.refl _ _⟩;have r0:=r0 ⟨_,hb1⟩;have r1:=r1 ⟨_,hb1⟩;have r2:=r2 ⟨_,hb1⟩;simp only at q0 q1 q2 r0 r1 r2;have s0:=HB.out.cell1 (j:=0) rfl;have s1:=HB.out.cell1 (j:=1) rfl;have s2:=HB.out.cell1 (j:=2) rfl;have t0:=HB.out.fO (j:=0) rfl;have t1:=HB.out.fO (j:=1) rfl;have t2:=HB.out.fO (j:=2) rfl;by_cases he : a[j] = b[j]
      · have jK : Hid (mU a b (j + 1)):=fun i i1 i2 h=>by
          by_cases e : i = j
          · subst e; exact he
          · exact hall.out i i1 i2 (by omega)
        rw [aQ he] at HC;clear he Hno aG hall hbel Rh Ri hb1;generalize a[j] = x at *;generalize b[j] = y at *;go_wp2_with fail;refine (HC.out _ HB.out.1.1).mono ?_;rintro e x1 ⟨rfl,hg⟩;have G:=Lib.hid (bg.out.trans ((HB.out.1.1.trans (hg.below.mono HB.out.1.1.size)).mono bg.out.size));clear hg;go_wp2_with fail
        go_roundw
        case rel=>exact ⟨j + 1,by omega,by go_num,jK.out,G.out⟩
        case measure=>simp [intOf]; omega
      · have Hf:=Lib.hid (Hno.out fun h=>he (h.2 j hla hlb hla));rw [aP he] at HC;clear he Hno aG hall hbel Rh Ri hb1;generalize a[j] = x at *;generalize b[j] = y at *;go_wp2_with fail;refine (HC.out _ HB.out.1.1).mono ?_;rintro e x1 ⟨rfl,hg⟩;have G:=Lib.hid (bg.out.trans ((HB.out.1.1.trans (hg.below.mono HB.out.1.1.size)).mono bg.out.size));clear hg;go_wp2_with fail;go_ret;exact ⟨by rw [Hf.out]; rfl,G.out⟩
    · obtain rfl : j = n:=(by omega);have Hf : Hid (R = true):=aG.out ⟨by rw [Hb.out,Hn.out],by rw [← Hn.out]; exact hall.out⟩;clear hall;go_wp2_with fail;go_ret;exact ⟨by rw [Hf.out]; rfl,bg.out⟩
set_option maxRecDepth 100000 in
theorem Jc (a b : List Need) (f1 f2 : Nat) (v1 v2 : Value) (w : World) (h1 : bf w f1 v1 (.sl 3 a.length (a.flatMap Need.row))) (h2 : bf w f2 v2 (.sl 3 b.length (b.flatMap Need.row))) :
    Calls Tryz.prog 57 #[v1,v2] w fun e w'=>e = .returned (.bool (yes (l8 a b))) ∧ Below w.heap.size w w':=by
  have H:=Lib.hid (OX a b f1 f2 v1 v2 w h1 h2);clear h1 h2;go_enter Tryz.func57,Tryz.ntmps57;go_wp2_with fail;refine H.out.mono ?_;rintro e w1 ⟨rfl,hb⟩;go_wp2_with fail;go_ret;exact ⟨rfl,hb⟩
end need
namespace pod
open Go.ChangeShapes Go.WideShapes Go.ChangeAt Go.RowKit ty lab need
theorem GA (a b : List Label) (f1 f2 : Nat) (v1 v2 : Value) (w : World) (h1 : bf w f1 v1 (.sl 2 a.length (a.flatMap Label.row))) (h2 : bf w f2 v2 (.sl 2 b.length (b.flatMap Label.row))) :
    Calls Tryz.prog 56 #[v1,v2] w fun e w'=>e = .returned (.bool (yes (a = b))) ∧ Below w.heap.size w w':=by
  have e : yes (a = b) = yes (oO a b):=(by congr 1; exact propext wU.symm);rw [e];exact CW a b f1 f2 v1 v2 w h1 h2
theorem GD (a b : List Need) (f1 f2 : Nat) (v1 v2 : Value) (w : World) (h1 : bf w f1 v1 (.sl 3 a.length (a.flatMap Need.row))) (h2 : bf w f2 v2 (.sl 3 b.length (b.flatMap Need.row))) :
    Calls Tryz.prog 57 #[v1,v2] w fun e w'=>e = .returned (.bool (yes (a = b))) ∧ Below w.heap.size w w':=by
  have e : yes (a = b) = yes (l8 a b):=(by congr 1; exact propext zH.symm);rw [e];exact Jc a b f1 f2 v1 v2 w h1 h2
end pod
namespace pod
open Go.ChangeShapes Go.WideShapes Go.ChangeAt Go.RowKit ty lab need
set_option maxRecDepth 100000 in
set_option maxHeartbeats 32000000 in
theorem El (x y : Pod) (f1 f2 : Nat) (us vs : List Value) (w : World) (hx : aH w f1 us x.row) (hy : aH w f2 vs y.row) :
    Calls Tryz.prog 17 #[.agg us.toArray,.agg vs.toArray] w fun e w'=>e = .returned (.bool (yes (x = y))) ∧ Below w.heap.size w w':=by
  obtain ⟨R,hR⟩ : ∃ R,yes (x = y) = R:=⟨_,rfl⟩;rw [hR];have Hno : Hid (¬ x = y → R = false):=fun h=>by rw [← hR]; exact aP h
  have aG : Hid (x = y → R = true):=fun h=>by rw [← hR]; exact aQ h
  clear hR;obtain ⟨a0,a1,a2,a3,a4,a5,a6⟩:=x;obtain ⟨b0,b1,b2,b3,b4,b5,b6⟩:=y;obtain ⟨A1,c1,A5,c5,A6,c6,rfl,hwf,k1,m1,l1,k5,m5,l5,k6,m6,l6⟩:=Pod.opened hx;obtain ⟨B1,d1,B5,d5,B6,d6,rfl,dZ,OT,OU,r1,OV,OW,r5,Zi,Zj,r6⟩:=Pod.opened hy;simp only at k1 m1 l1 OT OU r1 k5 m5 l5 OV OW r5 k6 m6 l6 Zi Zj r6;obtain ⟨w1,hw1⟩ : ∃ w1,w1 = (w.alloc (.cells #[.string a0,.slice A1 a1.length c1,.int .i64 a2,.int .i64 a3,.int .i64 a4,.slice A5 a5.length c5,.slice A6 a6.length c6] 28)).alloc (.cells #[.string b0,.slice B1 b1.length d1,.int .i64 b2,.int .i64 b3,.int .i64 b4,.slice B5 b5.length d5,.slice B6 b6.length d6] 28):=⟨_,rfl⟩;have hb1 : Below w.heap.size w w1:=(by rw [hw1]; exact ((Below.refl _ _).alloc (Nat.le_refl _) _).alloc (by simp) _);have wC:=Lib.hid (show aC 28 w1 w.heap.size [.string a0,.slice A1 a1.length c1,.int .i64 a2,.int .i64 a3,.int .i64 a4,.slice A5 a5.length c5,.slice A6 a6.length c6] by rw [hw1]; exact (aC.new _ _ _).alloc)
  have uW:=Lib.hid (show aC 28 w1 (w.heap.size + 1) [.string b0,.slice B1 b1.length d1,.int .i64 b2,.int .i64 b3,.int .i64 b4,.slice B5 b5.length d5,.slice B6 b6.length d6] by
    have h:=aC.new 28 (w.alloc (.cells #[.string a0,.slice A1 a1.length c1,.int .i64 a2,.int .i64 a3,.int .i64 a4,.slice A5 a5.length c5,.slice A6 a6.length c6] 28)) [.string b0,.slice B1 b1.length d1,.int .i64 b2,.int .i64 b3,.int .i64 b4,.slice B5 b5.length d5,.slice B6 b6.length d6];rw [show (w.alloc (.cells #[.string a0,.slice A1 a1.length c1,.int .i64 a2,.int .i64 a3,.int .i64 a4,.slice A5 a5.length c5,.slice A6 a6.length c6] 28)).heap.size = w.heap.size + 1 by simp] at h;rw [hw1]; exact h)
  have eT:=Lib.hid hw1;have C1:=Lib.hid (fun w' (hb : Below w.heap.size w w')=>GA a1 b1 _ _ _ _ w' (l1.below hb) (r1.below hb));have C5:=Lib.hid (fun w' (hb : Below w.heap.size w w')=>GD a5 b5 _ _ _ _ w' (l5.below hb) (r5.below hb));have C6:=Lib.hid (fun w' (hb : Below w.heap.size w w')=>wD a6 b6 _ _ _ _ w' (l6.below hb) (r6.below hb));have HB1:=Lib.hid hb1;clear hx hy hwf dZ hb1 hw1 k1 m1 l1 OT OU r1 k5 m5 l5 OV OW r5 k6 m6 l6 Zi Zj r6;by_cases h0 : a0 = b0
  case neg=>
    have Hf:=Lib.hid (Hno.out fun h=>h0 (by cases h; rfl));clear Hno aG;have n0:=dH h0;clear h0;go_enter Tryz.func17,Tryz.ntmps17;go_wp2_with fail;rw [← eT.out];go_ret;exact ⟨by rw [Hf.out]; rfl,HB1.out⟩
  have n0:=cu h0;have E0:=Lib.hid h0;clear h0;by_cases h1 : a1 = b1
  case neg=>
    have Hf:=Lib.hid (Hno.out fun h=>h1 (by cases h; rfl));clear Hno aG;rw [aP h1] at C1;clear h1;go_enter Tryz.func17,Tryz.ntmps17;go_wp2_with fail;rw [← eT.out];refine (C1.out _ HB1.out).mono ?_;rintro e y1 ⟨rfl,q1⟩;have aZ:=Lib.hid (ah HB1.out q1 HB1.out.size);have aN:=Lib.hid (wC.out.below q1);have aO:=Lib.hid (uW.out.below q1);clear q1;have cB:=aN.out.cell 0 _ rfl;have jm:=aO.out.cell 0 _ rfl;have bZ:=aN.out.cell 1 _ rfl;have jo:=aO.out.cell 1 _ rfl;have cK:=aN.out.cell 2 _ rfl;have jq:=aO.out.cell 2 _ rfl;have cO:=aN.out.cell 3 _ rfl;have jr:=aO.out.cell 3 _ rfl;have cZ:=aN.out.cell 4 _ rfl;have jv:=aO.out.cell 4 _ rfl;have dh:=aN.out.cell 5 _ rfl;have jw:=aO.out.cell 5 _ rfl;have fZ:=aN.out.cell 6 _ rfl;have qm:=aO.out.cell 6 _ rfl;go_wp2_with fail;go_ret;exact ⟨by rw [Hf.out]; rfl,aZ.out⟩
  rw [aQ h1] at C1;have E1:=Lib.hid h1;clear h1;by_cases h2 : a2 = b2
  case neg=>
    have Hf:=Lib.hid (Hno.out fun h=>h2 (by cases h; rfl));clear Hno aG;have o2 : (a2 == b2) = false:=beq_eq_false_iff_ne.2 h2;clear h2;go_enter Tryz.func17,Tryz.ntmps17;go_wp2_with fail;rw [← eT.out];refine (C1.out _ HB1.out).mono ?_;rintro e y1 ⟨rfl,q1⟩;have aZ:=Lib.hid (ah HB1.out q1 HB1.out.size);have aN:=Lib.hid (wC.out.below q1);have aO:=Lib.hid (uW.out.below q1);clear q1;have cB:=aN.out.cell 0 _ rfl;have jm:=aO.out.cell 0 _ rfl;have bZ:=aN.out.cell 1 _ rfl;have jo:=aO.out.cell 1 _ rfl;have cK:=aN.out.cell 2 _ rfl;have jq:=aO.out.cell 2 _ rfl;have cO:=aN.out.cell 3 _ rfl;have jr:=aO.out.cell 3 _ rfl;have cZ:=aN.out.cell 4 _ rfl;have jv:=aO.out.cell 4 _ rfl;have dh:=aN.out.cell 5 _ rfl;have jw:=aO.out.cell 5 _ rfl;have fZ:=aN.out.cell 6 _ rfl;have qm:=aO.out.cell 6 _ rfl;go_wp2_with fail;go_ret;exact ⟨by rw [Hf.out]; rfl,aZ.out⟩
  have o2 : (a2 == b2) = true:=beq_iff_eq.2 h2;have E2:=Lib.hid h2;clear h2;by_cases h3 : a3 = b3
  case neg=>
    have Hf:=Lib.hid (Hno.out fun h=>h3 (by cases h; rfl));clear Hno aG;have o3 : (a3 == b3) = false:=beq_eq_false_iff_ne.2 h3;clear h3;go_enter Tryz.func17,Tryz.ntmps17;go_wp2_with fail;rw [← eT.out];refine (C1.out _ HB1.out).mono ?_;rintro e y1 ⟨rfl,q1⟩;have aZ:=Lib.hid (ah HB1.out q1 HB1.out.size);have aN:=Lib.hid (wC.out.below q1);have aO:=Lib.hid (uW.out.below q1);clear q1;have cB:=aN.out.cell 0 _ rfl;have jm:=aO.out.cell 0 _ rfl;have bZ:=aN.out.cell 1 _ rfl;have jo:=aO.out.cell 1 _ rfl;have cK:=aN.out.cell 2 _ rfl;have jq:=aO.out.cell 2 _ rfl;have cO:=aN.out.cell 3 _ rfl;have jr:=aO.out.cell 3 _ rfl;have cZ:=aN.out.cell 4 _ rfl;have jv:=aO.out.cell 4 _ rfl;have dh:=aN.out.cell 5 _ rfl;have jw:=aO.out.cell 5 _ rfl;have fZ:=aN.out.cell 6 _ rfl;have qm:=aO.out.cell 6 _ rfl;go_wp2_with fail;go_ret;exact ⟨by rw [Hf.out]; rfl,aZ.out⟩
  have o3 : (a3 == b3) = true:=beq_iff_eq.2 h3;have E3:=Lib.hid h3;clear h3;by_cases h4 : a4 = b4
  case neg=>
    have Hf:=Lib.hid (Hno.out fun h=>h4 (by cases h; rfl));clear Hno aG;have o4 : (a4 == b4) = false:=beq_eq_false_iff_ne.2 h4;clear h4;go_enter Tryz.func17,Tryz.ntmps17;go_wp2_with fail;rw [← eT.out];refine (C1.out _ HB1.out).mono ?_;rintro e y1 ⟨rfl,q1⟩;have aZ:=Lib.hid (ah HB1.out q1 HB1.out.size);have aN:=Lib.hid (wC.out.below q1);have aO:=Lib.hid (uW.out.below q1);clear q1;have cB:=aN.out.cell 0 _ rfl;have jm:=aO.out.cell 0 _ rfl;have bZ:=aN.out.cell 1 _ rfl;have jo:=aO.out.cell 1 _ rfl;have cK:=aN.out.cell 2 _ rfl;have jq:=aO.out.cell 2 _ rfl;have cO:=aN.out.cell 3 _ rfl;have jr:=aO.out.cell 3 _ rfl;have cZ:=aN.out.cell 4 _ rfl;have jv:=aO.out.cell 4 _ rfl;have dh:=aN.out.cell 5 _ rfl;have jw:=aO.out.cell 5 _ rfl;have fZ:=aN.out.cell 6 _ rfl;have qm:=aO.out.cell 6 _ rfl;go_wp2_with fail;go_ret;exact ⟨by rw [Hf.out]; rfl,aZ.out⟩
  have o4 : (a4 == b4) = true:=beq_iff_eq.2 h4;have E4:=Lib.hid h4;clear h4;by_cases h5 : a5 = b5
  case neg=>
    have Hf:=Lib.hid (Hno.out fun h=>h5 (by cases h; rfl));clear Hno aG;rw [aP h5] at C5;clear h5;go_enter Tryz.func17,Tryz.ntmps17;go_wp2_with fail;rw [← eT.out];refine (C1.out _ HB1.out).mono ?_;rintro e y1 ⟨rfl,q1⟩;have aZ:=Lib.hid (ah HB1.out q1 HB1.out.size);have aN:=Lib.hid (wC.out.below q1);have aO:=Lib.hid (uW.out.below q1);clear q1;have cB:=aN.out.cell 0 _ rfl;have jm:=aO.out.cell 0 _ rfl;have bZ:=aN.out.cell 1 _ rfl;have jo:=aO.out.cell 1 _ rfl;have cK:=aN.out.cell 2 _ rfl;have jq:=aO.out.cell 2 _ rfl;have cO:=aN.out.cell 3 _ rfl;have jr:=aO.out.cell 3 _ rfl;have cZ:=aN.out.cell 4 _ rfl;have jv:=aO.out.cell 4 _ rfl;have dh:=aN.out.cell 5 _ rfl;have jw:=aO.out.cell 5 _ rfl;have fZ:=aN.out.cell 6 _ rfl;have qm:=aO.out.cell 6 _ rfl;go_wp2_with fail;refine (C5.out _ aZ.out).mono ?_;rintro e y5 ⟨rfl,q5⟩;have iA:=Lib.hid (ah aZ.out q5 aZ.out.size);have dW:=Lib.hid (aN.out.below q5);have dX:=Lib.hid (aO.out.below q5);clear cB jm bZ jo cK jq cO jr cZ jv dh jw fZ qm;clear q5;have rW:=dW.out.cell 0 _ rfl;have Bp:=dX.out.cell 0 _ rfl;have rX:=dW.out.cell 1 _ rfl;have Bq:=dX.out.cell 1 _ rfl;have rY:=dW.out.cell 2 _ rfl;have Br:=dX.out.cell 2 _ rfl;have rZ:=dW.out.cell 3 _ rfl;have Bt:=dX.out.cell 3 _ rfl;have sj:=dW.out.cell 4 _ rfl;have Bu:=dX.out.cell 4 _ rfl;have su:=dW.out.cell 5 _ rfl;have Bv:=dX.out.cell 5 _ rfl;have xI:=dW.out.cell 6 _ rfl;have Gz:=dX.out.cell 6 _ rfl;go_wp2_with fail;go_ret;exact ⟨by rw [Hf.out]; rfl,iA.out⟩
  rw [aQ h5] at C5;have E5:=Lib.hid h5;clear h5;by_cases h6 : a6 = b6
  case neg=>
    have Hf:=Lib.hid (Hno.out fun h=>h6 (by cases h; rfl));clear Hno aG;rw [aP h6] at C6;clear h6;go_enter Tryz.func17,Tryz.ntmps17;go_wp2_with fail;rw [← eT.out];refine (C1.out _ HB1.out).mono ?_;rintro e y1 ⟨rfl,q1⟩;have aZ:=Lib.hid (ah HB1.out q1 HB1.out.size);have aN:=Lib.hid (wC.out.below q1);have aO:=Lib.hid (uW.out.below q1);clear q1;have cB:=aN.out.cell 0 _ rfl;have jm:=aO.out.cell 0 _ rfl;have bZ:=aN.out.cell 1 _ rfl;have jo:=aO.out.cell 1 _ rfl;have cK:=aN.out.cell 2 _ rfl;have jq:=aO.out.cell 2 _ rfl;have cO:=aN.out.cell 3 _ rfl;have jr:=aO.out.cell 3 _ rfl;have cZ:=aN.out.cell 4 _ rfl;have jv:=aO.out.cell 4 _ rfl;have dh:=aN.out.cell 5 _ rfl;have jw:=aO.out.cell 5 _ rfl;have fZ:=aN.out.cell 6 _ rfl;have qm:=aO.out.cell 6 _ rfl;go_wp2_with fail;refine (C5.out _ aZ.out).mono ?_;rintro e y5 ⟨rfl,q5⟩;have iA:=Lib.hid (ah aZ.out q5 aZ.out.size);have dW:=Lib.hid (aN.out.below q5);have dX:=Lib.hid (aO.out.below q5);clear cB jm bZ jo cK jq cO jr cZ jv dh jw fZ qm;clear q5;have rW:=dW.out.cell 0 _ rfl;have Bp:=dX.out.cell 0 _ rfl;have rX:=dW.out.cell 1 _ rfl;have Bq:=dX.out.cell 1 _ rfl;have rY:=dW.out.cell 2 _ rfl;have Br:=dX.out.cell 2 _ rfl;have rZ:=dW.out.cell 3 _ rfl;have Bt:=dX.out.cell 3 _ rfl;have sj:=dW.out.cell 4 _ rfl;have Bu:=dX.out.cell 4 _ rfl;have su:=dW.out.cell 5 _ rfl;have Bv:=dX.out.cell 5 _ rfl;have xI:=dW.out.cell 6 _ rfl;have Gz:=dX.out.cell 6 _ rfl;go_wp2_with fail;refine (C6.out _ iA.out).mono ?_;rintro e y6 ⟨rfl,q6⟩;have I4:=Lib.hid (ah iA.out q6 iA.out.size);have uX:=Lib.hid (dW.out.below q6);have uY:=Lib.hid (dX.out.below q6);clear rW Bp rX Bq rY Br rZ Bt sj Bu su Bv xI Gz;clear q6;have Xg:=uX.out.cell 0 _ rfl;have ab1:=uY.out.cell 0 _ rfl;have Xh:=uX.out.cell 1 _ rfl;have ab2:=uY.out.cell 1 _ rfl;have Xi:=uX.out.cell 2 _ rfl;have ab3:=uY.out.cell 2 _ rfl;have Xj:=uX.out.cell 3 _ rfl;have ab4:=uY.out.cell 3 _ rfl;have Xk:=uX.out.cell 4 _ rfl;have ab5:=uY.out.cell 4 _ rfl;have Xl:=uX.out.cell 5 _ rfl;have ab6:=uY.out.cell 5 _ rfl;have Xm:=uX.out.cell 6 _ rfl;have ab7:=uY.out.cell 6 _ rfl;go_wp2_with fail;go_ret;exact ⟨by rw [Hf.out]; rfl,I4.out⟩
  rw [aQ h6] at C6;have E6:=Lib.hid h6;clear h6;have Hf:=Lib.hid (aG.out (by rw [E0.out,E1.out,E2.out,E3.out,E4.out,E5.out,E6.out]));clear Hno aG;go_enter Tryz.func17,Tryz.ntmps17;go_wp2_with fail;rw [← eT.out];refine (C1.out _ HB1.out).mono ?_;rintro e y1 ⟨rfl,q1⟩;have aZ:=Lib.hid (ah HB1.out q1 HB1.out.size);have aN:=Lib.hid (wC.out.below q1);have aO:=Lib.hid (uW.out.below q1);clear q1;have cB:=aN.out.cell 0 _ rfl;have jm:=aO.out.cell 0 _ rfl;have bZ:=aN.out.cell 1 _ rfl;have jo:=aO.out.cell 1 _ rfl;have cK:=aN.out.cell 2 _ rfl;have jq:=aO.out.cell 2 _ rfl;have cO:=aN.out.cell 3 _ rfl;have jr:=aO.out.cell 3 _ rfl;have cZ:=aN.out.cell 4 _ rfl;have jv:=aO.out.cell 4 _ rfl;have dh:=aN.out.cell 5 _ rfl;have jw:=aO.out.cell 5 _ rfl;have fZ:=aN.out.cell 6 _ rfl;have qm:=aO.out.cell 6 _ rfl;go_wp2_with fail;refine (C5.out _ aZ.out).mono ?_;rintro e y5 ⟨rfl,q5⟩;have iA:=Lib.hid (ah aZ.out q5 aZ.out.size);have dW:=Lib.hid (aN.out.below q5);have dX:=Lib.hid (aO.out.below q5);clear cB jm bZ jo cK jq cO jr cZ jv dh jw fZ qm;clear q5;have rW:=dW.out.cell 0 _ rfl;have Bp:=dX.out.cell 0 _ rfl;have rX:=dW.out.cell 1 _ rfl;have Bq:=dX.out.cell 1 _ rfl;have rY:=dW.out.cell 2 _ rfl;have Br:=dX.out.cell 2 _ rfl;have rZ:=dW.out.cell 3 _ rfl;have Bt:=dX.out.cell 3 _ rfl;have sj:=dW.out.cell 4 _ rfl;have Bu:=dX.out.cell 4 _ rfl;have su:=dW.out.cell 5 _ rfl;have Bv:=dX.out.cell 5 _ rfl;have xI:=dW.out.cell 6 _ rfl;have Gz:=dX.out.cell 6 _ rfl;go_wp2_with fail;refine (C6.out _ iA.out).mono ?_;rintro e y6 ⟨rfl,q6⟩;have I4:=Lib.hid (ah iA.out q6 iA.out.size);have uX:=Lib.hid (dW.out.below q6);have uY:=Lib.hid (dX.out.below q6);clear rW Bp rX Bq rY Br rZ Bt sj Bu su Bv xI Gz;clear q6;have Xg:=uX.out.cell 0 _ rfl;have ab1:=uY.out.cell 0 _ rfl;have Xh:=uX.out.cell 1 _ rfl;have ab2:=uY.out.cell 1 _ rfl;have Xi:=uX.out.cell 2 _ rfl;have ab3:=uY.out.cell 2 _ rfl;have Xj:=uX.out.cell 3 _ rfl;have ab4:=uY.out.cell 3 _ rfl;have Xk:=uX.out.cell 4 _ rfl;have ab5:=uY.out.cell 4 _ rfl;have Xl:=uX.out.cell 5 _ rfl;have ab6:=uY.out.cell 5 _ rfl;have Xm:=uX.out.cell 6 _ rfl;have ab7:=uY.out.cell 6 _ rfl;go_wp2_with fail;go_ret;exact ⟨by rw [Hf.out]; rfl,I4.out⟩
end pod
namespace pod
open Go.ChangeShapes Go.WideShapes Go.ChangeAt Go.RowKit ty lab
set_option maxRecDepth 100000 in
set_option maxHeartbeats 8000000 in
theorem Bz (a b : List av) (f1 f2 : Nat) (v1 v2 : Value) (w : World) (h1 : bf w f1 v1 (.sl 3 a.length (a.flatMap av.row))) (h2 : bf w f2 v2 (.sl 3 b.length (b.flatMap av.row))) :
    Calls Tryz.prog 60 #[v1,v2] w fun e w'=>e = .returned (.bool (yes (a = b))) ∧ Below w.heap.size w w':=by
  obtain ⟨A1,c1,rfl,hc1,hm1,f',rfl,hk1⟩:=bD av.au h1;obtain ⟨A2,c2,rfl,hc2,hm2,f'',rfl,hk2⟩:=bD av.au h2;unfold maxLen at hm1 hm2;obtain ⟨R,hR⟩ : ∃ R,yes (a = b) = R:=⟨_,rfl⟩;rw [hR];have Hno : Hid (¬ a = b → R = false):=fun h=>by rw [← hR]; exact aP h
  have aG : Hid (a = b → R = true):=fun h=>by rw [← hR]; exact aQ h
  have J2:=Lib.hid hk1;have J3:=Lib.hid hk2;clear h1 h2 hk1 hk2 hR;by_cases hl : a.length = b.length
  case neg=>
    have Hf:=Lib.hid (Hno.out fun h=>hl (by rw [h]));have hn : ((a.length : Int) != (b.length : Int)) = true:=bne_iff_ne.2 (by omega);clear hl Hno aG;go_enter Tryz.func60,Tryz.ntmps60;go_wp2_with fail;go_ret;exact ⟨by rw [Hf.out]; rfl,Below.refl _ _⟩
  obtain ⟨n,hn⟩ : ∃ n,n = a.length:=⟨_,rfl⟩;have hb : b.length = n:=(by omega);rw [← hn] at hc1;rw [hb] at hc2;rw [← hn,hb];have Hn:=Lib.hid hn;have Hb:=Lib.hid hb;clear hn hb hl;go_enter Tryz.func60,Tryz.ntmps60;go_wp2_with fail
  go_loopw [13] (fun i wr=>∃ j : Nat,j ≤ n ∧ i = .int .i64 j ∧ Hid (∀ q (h1 : q < a.length) (h2 : q < b.length),q < j → a[q] = b[q]) ∧ ∃ n,wr = w.drewN n) (fun i _=>n - (intOf i).toNat)
  case atStart=>exact ⟨0,Nat.zero_le _,rfl,fun _ _ _ h=>by omega,0,rfl⟩
  case round=>
    obtain ⟨j,hj,rfl,hall,n0,hwr⟩:=hrel;have Hw : Hid (∃ n,wr = w.drewN n):=⟨n0,hwr⟩;by_cases hlt : j < n
    · have hla : j < a.length:=(by rw [← Hn.out]; exact hlt);have hlb : j < b.length:=(by rw [Hb.out]; exact hlt);obtain ⟨g1,o1,hA1,hg1,Ze,uU,jF,oI⟩:=J2.out.get hla;obtain ⟨g2,o2,hA2,hg2,MH,jD,jG,eZ⟩:=J3.out.get hlb;obtain ⟨rfl,uV⟩:=av.opened oI;obtain ⟨rfl,dZ⟩:=av.opened eZ;have q0 : wr.cell? ⟨g1,o1 + j * 3,none⟩ = some (.string a[j].key):=(by rw [hwr]; exact jF 0 _ rfl);have q1 : wr.cell? ⟨g1,o1 + j * 3 + 1,none⟩ = some (.string a[j].value):=(by rw [hwr]; exact jF 1 _ rfl);have q2 : wr.cell? ⟨g1,o1 + j * 3 + 2,none⟩ = some (.int .i64 a[j].effect):=(by rw [hwr]; exact jF 2 _ rfl);have r0 : wr.cell? ⟨g2,o2 + j * 3,none⟩ = some (.string b[j].key):=(by rw [hwr]; exact jG 0 _ rfl);have r1 : wr.cell? ⟨g2,o2 + j * 3 + 1,none⟩ = some (.string b[j].value):=(by rw [hwr]; exact jG 1 _ rfl);have r2 : wr.cell? ⟨g2,o2 + j * 3 + 2,none⟩ = some (.int .i64 b[j].effect):=(by rw [hwr]; exact jG 2 _ rfl);subst hA1 hA2;have hj0 : (0 : Int) ≤ (j : Int):=(by omega);have hjn : (j : Int) < (n : Int):=(by omega);clear oI eZ uU jD jF jG uV dZ hwr hg1 hg2;have fq:=Lib.hid (fun (h : ¬ a[j] = b[j])=>Hno.out fun h3=>h (by subst h3; rfl))
      have jK:=Lib.hid (fun (h : a[j] = b[j])=>show ∀ q (h1 : q < a.length) (h2 : q < b.length),q < j + 1 → a[q] = b[q] from fun q h1 h2 h3=>by
        by_cases e : q = j
        · subst e; exact h
        · exact hall.out q h1 h2 (by omega))
      clear hall;generalize a[j] = x at q0 q1 q2 fq jK;generalize b[j] = y at r0 r1 r2 fq jK;clear hla hlb;by_cases h0 : x.key = y.key
      case neg=>
        have Hf:=Lib.hid (fq.out fun h=>h0 (by rw [h]));have d0:=dH h0;clear fq jK Hno aG h0;obtain ⟨n1,hn1⟩:=Hw.out;have HZ:=Lib.hid (show Below w.heap.size w wr by rw [hn1]; exact below_drewN (Below.refl _ _) _);clear hn1;go_wp2_with fail
        go_quiet (fail)
        go_wp2_with fail;go_ret;exact ⟨by rw [Hf.out]; rfl,below_drewN HZ.out _⟩
      have d0:=cu h0;by_cases h1 : x.value = y.value
      case neg=>
        have Hf:=Lib.hid (fq.out fun h=>h1 (by rw [h]));have d1:=dH h1;clear fq jK Hno aG h0 h1;obtain ⟨n1,hn1⟩:=Hw.out;have HZ:=Lib.hid (show Below w.heap.size w wr by rw [hn1]; exact below_drewN (Below.refl _ _) _);clear hn1;go_wp2_with fail
        go_quiet (fail)
        go_wp2_with fail;go_ret;exact ⟨by rw [Hf.out]; rfl,below_drewN HZ.out _⟩
      have d1:=cu h1;by_cases h2 : x.effect = y.effect
      case neg=>
        have Hf:=Lib.hid (fq.out fun h=>h2 (by rw [h]));have d2 : (x.effect == y.effect) = false:=beq_eq_false_iff_ne.2 h2;clear fq jK Hno aG h0 h1 h2;obtain ⟨n1,hn1⟩:=Hw.out;have HZ:=Lib.hid (show Below w.heap.size w wr by rw [hn1]; exact below_drewN (Below.refl _ _) _);clear hn1;go_wp2_with fail
        go_quiet (fail)
        go_wp2_with fail;go_ret;exact ⟨by rw [Hf.out]; rfl,below_drewN HZ.out _⟩
      have d2 : (x.effect == y.effect) = true:=beq_iff_eq.2 h2;have Hq:=Lib.hid (jK.out (by cases x; cases y; simp only at *; subst h0; subst h1; subst h2; rfl));clear fq jK Hno aG h0 h1 h2;go_wp2_with fail
      go_quiet (fail)
      go_wp2_with fail
      go_roundw
      case rel=>exact ⟨j + 1,by omega,by go_num,Hq.out,dU Hw.out _⟩
      case measure=>simp [intOf]; omega
    · obtain rfl : j = n:=(by omega);have hL : a = b:=List.ext_getElem (by rw [Hb.out,Hn.out]) (fun i h1 h2=>hall.out i h1 h2 (by rw [Hn.out]; exact h1));have Hf:=Lib.hid (aG.out hL);have HZ:=Lib.hid (show Below w.heap.size w wr by rw [hwr]; exact below_drewN (Below.refl _ _) _);clear hL hall hwr Hno aG;go_wp2_with fail;go_ret;exact ⟨by rw [Hf.out]; rfl,HZ.out⟩
end pod
namespace pod
open Go.ChangeShapes Go.WideShapes Go.ChangeAt Go.RowKit ty lab
theorem Em (a b : List Label) (f1 f2 : Nat) (v1 v2 : Value) (w : World) (h1 : bf w f1 v1 (.sl 2 a.length (a.flatMap Label.row))) (h2 : bf w f2 v2 (.sl 2 b.length (b.flatMap Label.row))) :
    Calls Tryz.prog 56 #[v1,v2] w fun e w'=>e = .returned (.bool (yes (a = b))) ∧ Below w.heap.size w w':=by
  have e : yes (a = b) = yes (oO a b):=(by congr 1; exact propext wU.symm);rw [e];exact CW a b f1 f2 v1 v2 w h1 h2
end pod
end Go.Proofs.YtcfbkfmkjggcdaaGreatDoor
