/-
  Addresses read from texts: the program.
-/
import Derived.Test.YtgknkhhoelgnhaaDoorAdr3
import Derived.Lib.AtoiErrMem
import Derived.Stop.IfaceNil
namespace Go.Proofs.YtgknkhhoelgnhaaDoor
open Go.RowKit Go.PlainAid
/-- what the library's own variables hold -/
structure LibW (w : World) : Prop where
  pow : PowT w
  syn : ∃ te pe, w.cell? ⟨7, 0, none⟩ = some (.iface te pe)
  rng : ∃ te pe, w.cell? ⟨8, 0, none⟩ = some (.iface te pe)
  mx : ∃ m : Int, w.cell? ⟨6, 0, none⟩ = some (.int .i64 m)
theorem LibW.below {w w' : World} (h : LibW w) (hb : Below w.heap.size w w') : LibW w' := by
  obtain ⟨h1, ⟨a, b, h2⟩, ⟨c, d, h3⟩, ⟨m, h4⟩⟩ := h
  exact ⟨h1.below hb, ⟨a, b, (hb.cell (p := ⟨7, 0, none⟩) (lt_of_cell h2)).trans h2⟩, ⟨c, d, (hb.cell (p := ⟨8, 0, none⟩) (lt_of_cell h3)).trans h3⟩, ⟨m, (hb.cell (p := ⟨6, 0, none⟩) (lt_of_cell h4)).trans h4⟩⟩
/-- strconv.ParseInt at base 10 and 64 bits, all ways at once -/
theorem i_Parse (s : ByteArray) (w : World) (hs : s.size ≤ 1099511627776) (hL : LibW w) :
    Calls Tryd.prog 76 #[.string s, .int .i64 10, .int .i64 64] w fun e w' => ∃ (v : Int) (ev : Value), e = .returned (.tuple #[.int .i64 v, ev]) ∧ (Lib.parseIntB 64 (bl s) = .ok v ∧ ev = .nilIface ∨ (∀ u, Lib.parseIntB 64 (bl s) ≠ .ok u) ∧ ∃ N, ev = .iface 123 (.pointer (some ⟨N, 0, none⟩))) ∧ Below w.heap.size w w' := by
  obtain ⟨_, ⟨a, b, h2⟩, ⟨c, d, h3⟩, _⟩ := hL
  cases hp : Lib.parseIntB 64 (bl s) with
  | ok v =>
    refine (Tryd.strconv_ParseInt_10_at64_ok s (by omega) v hp w).mono ?_
    rintro e w' ⟨rfl, hw⟩
    refine ⟨v, .nilIface, rfl, .inl ⟨rfl, rfl⟩, ?_⟩
    rcases hw with rfl | ⟨t, rfl⟩
    · exact Below.refl _ _
    · exact Lib.bytesWorld_below _ _ _
  | «syntax» =>
    refine (Tryd.strconv_ParseInt_10_at64_syntax s (by omega) hp (.iface a b) w h2 (.inr ⟨a, b, rfl⟩)).mono ?_
    rintro e w' ⟨N, rfl, _, _, hb⟩
    exact ⟨0, _, rfl, .inr ⟨fun u hu => (by cases hu), N, rfl⟩, hb⟩
  | range =>
    refine (Tryd.strconv_ParseInt_10_at64_range s (by omega) hp (.iface c d) w h3 (.inr ⟨c, d, rfl⟩)).mono ?_
    rintro e w' ⟨N, rfl, _, _, hb⟩
    exact ⟨_, _, rfl, .inr ⟨fun u hu => (by cases hu), N, rfl⟩, hb⟩
def rdV (l : List UInt8) : Value := .tuple #[.int .i64 ((rdD l).getD 0), .bool (rdD l).isSome]
theorem rdV_no {l : List UInt8} (h : rdD l = none) : rdV l = .tuple #[.int .i64 0, .bool false] := by unfold rdV; rw [h]; rfl
theorem rdV_yes {l : List UInt8} {v : Int} (h : rdD l = some v) : rdV l = .tuple #[.int .i64 v, .bool true] := by unfold rdV; rw [h]; rfl
set_option maxRecDepth 100000 in
set_option maxHeartbeats 1600000 in
theorem i_readDecimal (s : ByteArray) (w : World) (hs : s.size ≤ 1099511627776) (hL : LibW w) :
    Calls Tryd.prog 41 #[.string s] w fun e w' => e = .returned (rdV (bl s)) ∧ Below w.heap.size w w' := by
  have hpl : (str (Lib.trimPrefix (bl s) [45])).size = (Lib.trimPrefix (bl s) [45]).length := str_size _
  have CT : Hid (∀ u : World, Calls Tryd.prog 75 #[.string s, .string ⟨#[45]⟩] u fun e w' => e = .returned (.string (str (Lib.trimPrefix (bl s) [45]))) ∧ w' = u) := fun u => Tryd.strings_TrimPrefix s ⟨#[45]⟩ u
  by_cases h16 : 16 < (Lib.trimPrefix (bl s) [45]).length
  · have HV : Hid (rdV (bl s) = .tuple #[.int .i64 0, .bool false]) := rdV_no (by
      unfold rdD
      split
      · rw [if_neg (fun h => absurd h.1 (by omega))]
      · rfl)
    generalize Lib.trimPrefix (bl s) [45] = tp at *
    have h16i : (16 : Int) < (tp.length : Int) := by omega
    go_enter Tryd.func41, Tryd.ntmps41
    go_wp2_with (go_at_call 75; refine (CT.out _).mono ?_; rintro e wq ⟨rfl, hq⟩; rw [hq]; clear hq wq)
    refine bodyPost_ret (v := .tuple #[.int .i64 0, .bool false]) ?_ rfl ⟨by rw [HV.out], Below.refl _ _⟩
    simp [results, Tryd.results41, go_sem]
  · have hle : (Lib.trimPrefix (bl s) [45]).length ≤ 16 := by omega
    have CP : Hid (Calls Tryd.prog 76 #[.string s, .int .i64 10, .int .i64 64] w fun e w' => ∃ (v : Int) (ev : Value), e = .returned (.tuple #[.int .i64 v, ev]) ∧ (Lib.parseIntB 64 (bl s) = .ok v ∧ ev = .nilIface ∨ (∀ u, Lib.parseIntB 64 (bl s) ≠ .ok u) ∧ ∃ N, ev = .iface 123 (.pointer (some ⟨N, 0, none⟩))) ∧ Below w.heap.size w w') := i_Parse s w hs hL
    have CF : Hid (∀ (v : Int) (u : World), Below w.heap.size w u → -9223372036854775808 ≤ v → v ≤ 9223372036854775807 → Calls Tryd.prog 36 #[.int .i64 v, .int .i64 10] u fun e w' => e = .returned (.string (str (Lib.itoa v))) ∧ Below u.heap.size u w') := fun v u hb h0 h1 => by
      refine (Tryd.strconv_FormatInt_10 v h0 h1 u (hL.pow.below hb)).mono ?_
      rintro e w' ⟨rfl, k, os, rfl⟩
      exact ⟨rfl, Lib.below_grow _ u (Nat.le_refl _) k os⟩
    have HR : Hid (∀ v, Lib.parseIntB 64 (bl s) = .ok v → rdV (bl s) = if Lib.itoa v = bl s then .tuple #[.int .i64 v, .bool true] else .tuple #[.int .i64 0, .bool false]) := fun v hv => by
      by_cases he : Lib.itoa v = bl s
      · rw [if_pos he]
        exact rdV_yes (by unfold rdD; rw [hv]; simp only; rw [if_pos ⟨hle, he⟩])
      · rw [if_neg he]
        exact rdV_no (by unfold rdD; rw [hv]; simp only; rw [if_neg (fun h => he h.2)])
    have HX : Hid ((∀ u, Lib.parseIntB 64 (bl s) ≠ .ok u) → rdV (bl s) = .tuple #[.int .i64 0, .bool false]) := fun hn => rdV_no (by
      unfold rdD
      split
      · rename_i v hv; exact absurd hv (hn v)
      · rfl)
    have h16i : ¬ (16 : Int) < ((Lib.trimPrefix (bl s) [45]).length : Int) := by omega
    generalize Lib.trimPrefix (bl s) [45] = tp at *
    clear hL
    go_enter Tryd.func41, Tryd.ntmps41
    go_wp2_with (go_at_call 75; refine (CT.out _).mono ?_; rintro e wq ⟨rfl, hq⟩; rw [hq]; clear hq wq)
    refine CP.out.mono ?_
    rintro e w1 ⟨v, ev, rfl, hcase, hB⟩
    rcases hcase with ⟨hv, rfl⟩ | ⟨hn, N, rfl⟩
    · obtain ⟨b0, b1⟩ := Lib.parseIntB_bounds hv
      have b0' : -9223372036854775808 ≤ v := by simpa using b0
      have b1' : v ≤ 9223372036854775807 := by have : v < 9223372036854775808 := by simpa using b1
                                               omega
      have CF2 : Hid (Calls Tryd.prog 36 #[.int .i64 v, .int .i64 10] w1 fun e w' => e = .returned (.string (str (Lib.itoa v))) ∧ Below w1.heap.size w1 w') := CF.out v w1 hB b0' b1'
      have HR2 := HR.out v hv
      have HV : Hid (rdV (bl s) = if Lib.itoa v = bl s then .tuple #[.int .i64 v, .bool true] else .tuple #[.int .i64 0, .bool false]) := HR2
      clear HR HR2 HX b0 b1 CF hv
      by_cases he : Lib.itoa v = bl s
      · have hse : str (Lib.itoa v) = s := by rw [he, str_bl]
        rw [hse] at CF2
        have HV2 : Hid (rdV (bl s) = .tuple #[.int .i64 v, .bool true]) := by show _ = _; rw [HV.out, if_pos he]
        clear HV he hse
        go_wp2_with fail
        refine CF2.out.mono ?_
        rintro e w2 ⟨rfl, hb⟩
        go_wp2
        refine bodyPost_ret (v := .tuple #[.int .i64 v, .bool true]) ?_ rfl ⟨by rw [HV2.out], hB.trans (hb.mono hB.size)⟩
        simp [results, Tryd.results41, go_sem]
      · have hne : ¬ str (Lib.itoa v) = s := fun e => he (by rw [← e])
        have hq := str_ne hne
        have HV2 : Hid (rdV (bl s) = .tuple #[.int .i64 0, .bool false]) := by show _ = _; rw [HV.out, if_neg he]
        clear HV he hne
        generalize str (Lib.itoa v) = iv at *
        go_wp2_with fail
        refine CF2.out.mono ?_
        rintro e w2 ⟨rfl, hb⟩
        go_wp2
        refine bodyPost_ret (v := .tuple #[.int .i64 0, .bool false]) ?_ rfl ⟨by rw [HV2.out], hB.trans (hb.mono hB.size)⟩
        simp [results, Tryd.results41, go_sem]
    · have HV2 : Hid (rdV (bl s) = .tuple #[.int .i64 0, .bool false]) := HX.out hn
      clear HR HX CF hn
      go_wp2
      refine bodyPost_ret (v := .tuple #[.int .i64 0, .bool false]) ?_ rfl ⟨by rw [HV2.out], hB⟩
      simp [results, Tryd.results41, go_sem]
end Go.Proofs.YtgknkhhoelgnhaaDoor
