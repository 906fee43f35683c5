/- impl.bracedOf. Printed by gen/gen_sayi.py. -/
import Derived.Test.YtkgogbeknehphaaDoorSayK5
import Derived.Test.YtkgogbeknehphaaDoorSayK6
namespace Go.Proofs.YtkgogbeknehphaaDoor.say
open Go.ChangeShapes Go.WideShapes Go.ChangeAt Go.RowKit tree
open rune (Tabs)
open decimal (Pow)
set_option linter.unusedVariables false

set_option maxRecDepth 1000000 in
set_option maxHeartbeats 8000000 in
theorem of_1 (f : Nat) (hIH : OfI f) (fl : Bool) (n : Int) (s : ByteArray) (ks : List ByteArray) (kids : List T) (A1 A2 : Option Addr) (c1 c2 : Nat) (w : World) (wn : (Lit.int .i64 n).wf = true) (ht : TextOk s) (hk : KidsAt w f A2 kids) (hr : Rd w A1 ks.length (scells ks)) (hko : KeysOk ks) (hk8 : True) (hkd : ∀ x ∈ kids, Shape x)
    (hc1 : ks.length ≤ c1) (hc2 : c1 ≤ maxLen) (hc3 : kids.length ≤ c2) (hc4 : c2 ≤ maxLen) (hroom : (say (.mk 1 fl n s ks kids)).length ≤ 1099511627776) (hsz : sizes kids ≤ 1099511627776) (hP : Pow w) (hT : Tabs w) :
    Calls Tryd.prog 16 #[.agg #[.int .i64 1, .bool fl, .int .i64 n, .string s, .slice A1 ks.length c1, .slice A2 kids.length c2]] w fun e w' => e = .returned (.string (by_ (say (.mk 1 fl n s ks kids)))) ∧ Below w.heap.size w w' := by
  have HB := Lib.hid (Box.new 30 w [.int .i64 1, .bool fl, .int .i64 n, .string s, .slice A1 ks.length c1, .slice A2 kids.length c2])
  have hb1 := HB.out.1
  have p0 := HB.out.cell (j := 0) rfl
  have p1 := HB.out.cell (j := 1) rfl
  have p2 := HB.out.cell (j := 2) rfl
  have p3 := HB.out.cell (j := 3) rfl
  have Hb1 := Lib.hid hb1
  rw [say1]
  clear hk hr hroom hP hT hko hkd hb1 hk8 hsz hIH wn ht HB hc1 hc2 hc3 hc4
  go_enter Tryd.func16, Tryd.ntmps16
  go_wp2_with fail
  go_ret
  exact ⟨rfl, Hb1.out⟩
set_option maxRecDepth 1000000 in
set_option maxHeartbeats 8000000 in
theorem of_2 (f : Nat) (hIH : OfI f) (fl : Bool) (n : Int) (s : ByteArray) (ks : List ByteArray) (kids : List T) (A1 A2 : Option Addr) (c1 c2 : Nat) (w : World) (wn : (Lit.int .i64 n).wf = true) (ht : TextOk s) (hk : KidsAt w f A2 kids) (hr : Rd w A1 ks.length (scells ks)) (hko : KeysOk ks) (hk8 : True) (hkd : ∀ x ∈ kids, Shape x)
    (hc1 : ks.length ≤ c1) (hc2 : c1 ≤ maxLen) (hc3 : kids.length ≤ c2) (hc4 : c2 ≤ maxLen) (hroom : (say (.mk 2 fl n s ks kids)).length ≤ 1099511627776) (hsz : sizes kids ≤ 1099511627776) (hP : Pow w) (hT : Tabs w) :
    Calls Tryd.prog 16 #[.agg #[.int .i64 2, .bool fl, .int .i64 n, .string s, .slice A1 ks.length c1, .slice A2 kids.length c2]] w fun e w' => e = .returned (.string (by_ (say (.mk 2 fl n s ks kids)))) ∧ Below w.heap.size w w' := by
  have HB := Lib.hid (Box.new 30 w [.int .i64 2, .bool fl, .int .i64 n, .string s, .slice A1 ks.length c1, .slice A2 kids.length c2])
  have hb1 := HB.out.1
  have p0 := HB.out.cell (j := 0) rfl
  have p1 := HB.out.cell (j := 1) rfl
  have p2 := HB.out.cell (j := 2) rfl
  have p3 := HB.out.cell (j := 3) rfl
  have Hb1 := Lib.hid hb1
  have HF := Lib.hid (fun w => Tryd.strconv_FormatBool fl w)
  have Hy := Lib.hid (show (⟨(Lib.formatBool fl).toArray⟩ : ByteArray) = by_ (say (.mk 2 fl n s ks kids)) by rw [say2]; cases fl; exact word_false; exact word_true)
  rw [← Hy.out]
  clear hk hr hroom hP hT hko hkd hb1 hk8 hsz hIH wn ht HB hc1 hc2 hc3 hc4 Hy
  go_enter Tryd.func16, Tryd.ntmps16
  go_wp2_with fail
  refine (HF.out _).mono ?_
  rintro e w2 ⟨rfl, rfl⟩
  clear HF
  go_wp2_with fail
  go_ret
  exact ⟨rfl, Hb1.out⟩
set_option maxRecDepth 1000000 in
set_option maxHeartbeats 8000000 in
theorem of_3 (f : Nat) (hIH : OfI f) (fl : Bool) (n : Int) (s : ByteArray) (ks : List ByteArray) (kids : List T) (A1 A2 : Option Addr) (c1 c2 : Nat) (w : World) (wn : (Lit.int .i64 n).wf = true) (ht : TextOk s) (hk : KidsAt w f A2 kids) (hr : Rd w A1 ks.length (scells ks)) (hko : KeysOk ks) (hk8 : True) (hkd : ∀ x ∈ kids, Shape x)
    (hc1 : ks.length ≤ c1) (hc2 : c1 ≤ maxLen) (hc3 : kids.length ≤ c2) (hc4 : c2 ≤ maxLen) (hroom : (say (.mk 3 fl n s ks kids)).length ≤ 1099511627776) (hsz : sizes kids ≤ 1099511627776) (hP : Pow w) (hT : Tabs w) :
    Calls Tryd.prog 16 #[.agg #[.int .i64 3, .bool fl, .int .i64 n, .string s, .slice A1 ks.length c1, .slice A2 kids.length c2]] w fun e w' => e = .returned (.string (by_ (say (.mk 3 fl n s ks kids)))) ∧ Below w.heap.size w w' := by
  have HB := Lib.hid (Box.new 30 w [.int .i64 3, .bool fl, .int .i64 n, .string s, .slice A1 ks.length c1, .slice A2 kids.length c2])
  have hb1 := HB.out.1
  have p0 := HB.out.cell (j := 0) rfl
  have p1 := HB.out.cell (j := 1) rfl
  have p2 := HB.out.cell (j := 2) rfl
  have p3 := HB.out.cell (j := 3) rfl
  have Hb1 := Lib.hid hb1
  have hI := wf_int wn
  have HD := Lib.hid (decimal.impl_any n _ hI.1 hI.2 (hP.below hb1))
  rw [say3]
  clear hk hr hroom hP hT hko hkd hb1 hk8 hsz hIH wn ht HB hc1 hc2 hc3 hc4
  go_enter Tryd.func16, Tryd.ntmps16
  go_wp2_with fail
  refine HD.out.mono ?_
  rintro e w2 ⟨rfl, hb2⟩
  have Hb2 := Lib.hid (below_link Hb1.out hb2 Hb1.out.size)
  clear HD hb2 p0 p1 p2 p3
  go_wp2_with fail
  go_ret
  exact ⟨rfl, Hb2.out⟩
set_option maxRecDepth 1000000 in
set_option maxHeartbeats 8000000 in
theorem of_4 (f : Nat) (hIH : OfI f) (fl : Bool) (n : Int) (s : ByteArray) (ks : List ByteArray) (kids : List T) (A1 A2 : Option Addr) (c1 c2 : Nat) (w : World) (wn : (Lit.int .i64 n).wf = true) (ht : TextOk s) (hk : KidsAt w f A2 kids) (hr : Rd w A1 ks.length (scells ks)) (hko : KeysOk ks) (hk8 : True) (hkd : ∀ x ∈ kids, Shape x)
    (hc1 : ks.length ≤ c1) (hc2 : c1 ≤ maxLen) (hc3 : kids.length ≤ c2) (hc4 : c2 ≤ maxLen) (hroom : (say (.mk 4 fl n s ks kids)).length ≤ 1099511627776) (hsz : sizes kids ≤ 1099511627776) (hP : Pow w) (hT : Tabs w) :
    Calls Tryd.prog 16 #[.agg #[.int .i64 4, .bool fl, .int .i64 n, .string s, .slice A1 ks.length c1, .slice A2 kids.length c2]] w fun e w' => e = .returned (.string (by_ (say (.mk 4 fl n s ks kids)))) ∧ Below w.heap.size w w' := by
  have HB := Lib.hid (Box.new 30 w [.int .i64 4, .bool fl, .int .i64 n, .string s, .slice A1 ks.length c1, .slice A2 kids.length c2])
  have hb1 := HB.out.1
  have p0 := HB.out.cell (j := 0) rfl
  have p1 := HB.out.cell (j := 1) rfl
  have p2 := HB.out.cell (j := 2) rfl
  have p3 := HB.out.cell (j := 3) rfl
  have Hb1 := Lib.hid hb1
  have HD := Lib.hid (quote.impl_quoted s _ (Nat.le_trans ht.1 (by omega)) (hT.below hb1))
  have hy : by_ (say (.mk 4 fl n s ks kids)) = quote.quotedF s := by rw [say4]; rfl
  rw [hy]
  generalize quote.quotedF s = d at HD
  clear hk hr hroom hP hT hko hkd hb1 hk8 hsz hIH wn ht HB hc1 hc2 hc3 hc4 hy
  go_enter Tryd.func16, Tryd.ntmps16
  go_wp2_with fail
  refine HD.out.mono ?_
  rintro e w2 ⟨rfl, hb2⟩
  have Hb2 := Lib.hid (below_link Hb1.out hb2 Hb1.out.size)
  clear HD hb2 p0 p1 p2 p3
  go_wp2_with fail
  go_ret
  exact ⟨rfl, Hb2.out⟩
set_option maxRecDepth 1000000 in
set_option maxHeartbeats 8000000 in
theorem of_5 (f : Nat) (hIH : OfI f) (fl : Bool) (n : Int) (s : ByteArray) (ks : List ByteArray) (kids : List T) (A1 A2 : Option Addr) (c1 c2 : Nat) (w : World) (wn : (Lit.int .i64 n).wf = true) (ht : TextOk s) (hk : KidsAt w f A2 kids) (hr : Rd w A1 ks.length (scells ks)) (hko : KeysOk ks) (hk8 : True) (hkd : ∀ x ∈ kids, Shape x)
    (hc1 : ks.length ≤ c1) (hc2 : c1 ≤ maxLen) (hc3 : kids.length ≤ c2) (hc4 : c2 ≤ maxLen) (hroom : (say (.mk 5 fl n s ks kids)).length ≤ 1099511627776) (hsz : sizes kids ≤ 1099511627776) (hP : Pow w) (hT : Tabs w) :
    Calls Tryd.prog 16 #[.agg #[.int .i64 5, .bool fl, .int .i64 n, .string s, .slice A1 ks.length c1, .slice A2 kids.length c2]] w fun e w' => e = .returned (.string (by_ (say (.mk 5 fl n s ks kids)))) ∧ Below w.heap.size w w' := by
  have HB := Lib.hid (Box.new 30 w [.int .i64 5, .bool fl, .int .i64 n, .string s, .slice A1 ks.length c1, .slice A2 kids.length c2])
  have hb1 := HB.out.1
  have p0 := HB.out.cell (j := 0) rfl
  have p1 := HB.out.cell (j := 1) rfl
  have p2 := HB.out.cell (j := 2) rfl
  have p3 := HB.out.cell (j := 3) rfl
  have Hb1 := Lib.hid hb1
  have p4 := HB.out.cell (j := 4) rfl
  have p5 := HB.out.cell (j := 5) rfl
  have hlen : (say (.mk 5 fl n s ks kids)).length = (joinC (kids.map say)).length + 2 := by rw [say5]; simp
  have HK := Lib.hid (impl_kids5 f hIH fl n s ks kids A1 A2 c1 c2 _ (hk.below hb1) (hr.below hb1) hko hk8 hkd hc1 hc2 hc3 hc4 (by omega) hsz (hP.below hb1) (hT.below hb1))
  have hy : by_ (say (.mk 5 fl n s ks kids)) = (⟨#[91]⟩ : ByteArray) ++ by_ (joinC (kids.map say)) ++ ⟨#[93]⟩ := by
    rw [say5]
    apply ByteArray.ext
    apply Array.ext'
    simp [by_]
  have hkl : kids.length ≤ 1099511627776 := Nat.le_trans (length_le_sizes kids) hsz
  have hil : (kids.map say).length = kids.length := by rw [List.length_map]
  have HJ := Lib.hid (fun A c w' h1 h2 => join_any (kids.map say) A c w' h1 h2 (by omega) (by omega))
  have hdz : (by_ (joinC (kids.map say))).size ≤ 1099511627776 := by show (joinC (kids.map say)).toArray.size ≤ _; rw [List.size_toArray]; omega
  rw [hy]
  unfold KidsOut at HK
  generalize by_ (joinC (kids.map say)) = d at HJ hdz
  generalize (kids.map say).map by_ = L2 at HK HJ
  generalize (kids.map say).length = N at HK HJ
  clear hk hr hroom hP hT hko hkd hb1 hk8 hsz hIH wn ht HB hc1 hc2 hc3 hc4 hlen hy hkl hil
  go_enter Tryd.func16, Tryd.ntmps16
  go_wp2_with fail
  refine HK.out.mono ?_
  rintro e w2 ⟨A9, c9, rfl, hn9, hr9, hb2⟩
  have HJ2 := Lib.hid (HJ.out A9 c9 w2 hn9 hr9)
  have Hb2 := Lib.hid (below_link Hb1.out hb2 Hb1.out.size)
  clear HK HJ hb2 hr9 p0 p1 p2 p3 p4 p5
  go_wp2_with fail
  refine HJ2.out.mono ?_
  rintro e w3 ⟨rfl, hb3⟩
  have Hb3 := Lib.hid (below_link Hb2.out hb3 Hb2.out.size)
  clear HJ2 hb3
  go_wp2_with fail
  go_ret
  exact ⟨rfl, Hb3.out⟩
set_option maxRecDepth 1000000 in
set_option maxHeartbeats 8000000 in
theorem of_6 (f : Nat) (hIH : OfI f) (fl : Bool) (n : Int) (s : ByteArray) (ks : List ByteArray) (kids : List T) (A1 A2 : Option Addr) (c1 c2 : Nat) (w : World) (wn : (Lit.int .i64 n).wf = true) (ht : TextOk s) (hk : KidsAt w f A2 kids) (hr : Rd w A1 ks.length (scells ks)) (hko : KeysOk ks) (hk8 : ks.length = kids.length) (hkd : ∀ x ∈ kids, Shape x)
    (hc1 : ks.length ≤ c1) (hc2 : c1 ≤ maxLen) (hc3 : kids.length ≤ c2) (hc4 : c2 ≤ maxLen) (hroom : (say (.mk 6 fl n s ks kids)).length ≤ 1099511627776) (hsz : sizes kids ≤ 1099511627776) (hP : Pow w) (hT : Tabs w) :
    Calls Tryd.prog 16 #[.agg #[.int .i64 6, .bool fl, .int .i64 n, .string s, .slice A1 ks.length c1, .slice A2 kids.length c2]] w fun e w' => e = .returned (.string (by_ (say (.mk 6 fl n s ks kids)))) ∧ Below w.heap.size w w' := by
  have HB := Lib.hid (Box.new 30 w [.int .i64 6, .bool fl, .int .i64 n, .string s, .slice A1 ks.length c1, .slice A2 kids.length c2])
  have hb1 := HB.out.1
  have p0 := HB.out.cell (j := 0) rfl
  have p1 := HB.out.cell (j := 1) rfl
  have p2 := HB.out.cell (j := 2) rfl
  have p3 := HB.out.cell (j := 3) rfl
  have Hb1 := Lib.hid hb1
  have p4 := HB.out.cell (j := 4) rfl
  have p5 := HB.out.cell (j := 5) rfl
  have hlen : (say (.mk 6 fl n s ks kids)).length = (joinC (List.zipWith pairL ks (kids.map say))).length + 2 := by rw [say6]; simp
  have HK := Lib.hid (impl_kids6 f hIH fl n s ks kids A1 A2 c1 c2 _ (hk.below hb1) (hr.below hb1) hko hk8 hkd hc1 hc2 hc3 hc4 (by omega) hsz (hP.below hb1) (hT.below hb1))
  have hy : by_ (say (.mk 6 fl n s ks kids)) = (⟨#[123]⟩ : ByteArray) ++ by_ (joinC (List.zipWith pairL ks (kids.map say))) ++ ⟨#[125]⟩ := by
    rw [say6]
    apply ByteArray.ext
    apply Array.ext'
    simp [by_]
  have hkl : kids.length ≤ 1099511627776 := Nat.le_trans (length_le_sizes kids) hsz
  have hil : (List.zipWith pairL ks (kids.map say)).length = kids.length := by rw [List.length_zipWith, List.length_map, hk8, Nat.min_self]
  have HJ := Lib.hid (fun A c w' h1 h2 => join_any (List.zipWith pairL ks (kids.map say)) A c w' h1 h2 (by omega) (by omega))
  have hdz : (by_ (joinC (List.zipWith pairL ks (kids.map say)))).size ≤ 1099511627776 := by show (joinC (List.zipWith pairL ks (kids.map say))).toArray.size ≤ _; rw [List.size_toArray]; omega
  rw [hy]
  unfold KidsOut at HK
  generalize by_ (joinC (List.zipWith pairL ks (kids.map say))) = d at HJ hdz
  generalize (List.zipWith pairL ks (kids.map say)).map by_ = L2 at HK HJ
  generalize (List.zipWith pairL ks (kids.map say)).length = N at HK HJ
  clear hk hr hroom hP hT hko hkd hb1 hk8 hsz hIH wn ht HB hc1 hc2 hc3 hc4 hlen hy hkl hil
  go_enter Tryd.func16, Tryd.ntmps16
  go_wp2_with fail
  refine HK.out.mono ?_
  rintro e w2 ⟨A9, c9, rfl, hn9, hr9, hb2⟩
  have HJ2 := Lib.hid (HJ.out A9 c9 w2 hn9 hr9)
  have Hb2 := Lib.hid (below_link Hb1.out hb2 Hb1.out.size)
  clear HK HJ hb2 hr9 p0 p1 p2 p3 p4 p5
  go_wp2_with fail
  refine HJ2.out.mono ?_
  rintro e w3 ⟨rfl, hb3⟩
  have Hb3 := Lib.hid (below_link Hb2.out hb3 Hb2.out.size)
  clear HJ2 hb3
  go_wp2_with fail
  go_ret
  exact ⟨rfl, Hb3.out⟩
theorem of_step (f : Nat) (IH : OfI f) : OfI (f + 1) := by
  intro t vs w h hsh hroom hsz hP hT
  obtain ⟨k, fl, n, s, ks, kids⟩ := t
  obtain ⟨A1, c1, A2, c2, rfl, wk, wn, hs, hc1, hc2, hr, hks, hc3, hc4, f', hf, hk⟩ := open_tree h
  obtain rfl : f = f' := by omega
  rw [Shape, shapes_iff] at hsh
  obtain ⟨⟨hk1, hk6, _, _, _, _, _, hk8⟩, ht, hko, hkd⟩ := hsh
  have hsz2 : sizes kids ≤ 1099511627776 := by rw [size] at hsz; omega
  obtain rfl | rfl | rfl | rfl | rfl | rfl : k = 1 ∨ k = 2 ∨ k = 3 ∨ k = 4 ∨ k = 5 ∨ k = 6 := by omega
  · exact of_1 f IH fl n s ks kids A1 A2 c1 c2 w wn ht hk hr hko trivial hkd hc1 hc2 hc3 hc4 hroom hsz2 hP hT
  · exact of_2 f IH fl n s ks kids A1 A2 c1 c2 w wn ht hk hr hko trivial hkd hc1 hc2 hc3 hc4 hroom hsz2 hP hT
  · exact of_3 f IH fl n s ks kids A1 A2 c1 c2 w wn ht hk hr hko trivial hkd hc1 hc2 hc3 hc4 hroom hsz2 hP hT
  · exact of_4 f IH fl n s ks kids A1 A2 c1 c2 w wn ht hk hr hko trivial hkd hc1 hc2 hc3 hc4 hroom hsz2 hP hT
  · exact of_5 f IH fl n s ks kids A1 A2 c1 c2 w wn ht hk hr hko trivial hkd hc1 hc2 hc3 hc4 hroom hsz2 hP hT
  · exact of_6 f IH fl n s ks kids A1 A2 c1 c2 w wn ht hk hr hko (hk8 rfl) hkd hc1 hc2 hc3 hc4 hroom hsz2 hP hT
theorem impl_of : ∀ (f : Nat), OfI f
  | 0 => by
    intro t vs w h
    obtain ⟨k, fl, n, s, ks, kids⟩ := t
    obtain ⟨_, _, _, _, _, _, _, _, _, _, _, _, _, _, f', hf, _⟩ := open_tree h
    omega
  | f + 1 => of_step f (impl_of f)
end Go.Proofs.YtkgogbeknehphaaDoor.say
