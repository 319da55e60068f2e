/-
  The law on labels that are pushed and popped.
-/
import Derived.Test.YtlnhiaapjphefaaDmp
import Derived.Test.YtlnhiaapjphefaaLabs2
import Derived.Test.YtlnhiaapjphefaaLabs4
namespace Go.Proofs.Ytlnhiaapjphefaa
open Go.RowKit Go.PlainAid
theorem eqLabel_same (a b c : Int) (w : World) : (binOp .eql 55 (.agg #[.int .i64 a, .int .i64 b, .int .i64 c]) (.agg #[.int .i64 a, .int .i64 b, .int .i64 c])).run Try.prog w = .ok (.bool true) w := by
  have u3 := Try.underlying2
  have a3 := Try.isAgg2
  have z3 := Try.sizeOf2
  have hS : Try.prog.underlying 55 = some (.struct (Try.prog.fieldsOf 55)) := by kernel_rfl
  have hp : Try.prog.stoodInHeld 55 = false := by kernel_rfl
  rw [run_eql_struct w, show (10000 : Nat) = 9999 + 1 from rfl, run_equalIn_agg w 9999 55 _ _ hS hp]
  simp only [Program.fieldsOf, Try.underlying55]
  go_simp
set_option maxRecDepth 100000 in
set_option maxHeartbeats 1600000 in
theorem d_Pushed (B : Nat) (C : Option Addr) (len cap : Nat) (w : World) (h : Code w B C len) (hBw : B ≤ w.heap.size) :
    Calls Try.prog 39 #[.slice C len cap] w fun e w' => ∃ (v : Value) (l : List LbV) (m : LbV), e = .returned (.tuple #[v, .agg (lbL m)]) ∧ ownR w' w.heap.size 55 3 v l.length (lbF l) ∧ 1 ≤ l.length ∧ l.length ≤ 5 ∧ Below w.heap.size w w' := by
  have hB0 : Below w.heap.size w (w.alloc (.cells #[.int .i64 0, .int .i64 0, .int .i64 0] 55)) := (Below.refl _ w).alloc (Nat.le_refl _) _
  have hA0 : Bxl (w.alloc (.cells #[.int .i64 0, .int .i64 0, .int .i64 0] 55)) w.heap.size ⟨0, 0, 0⟩ := Bxl.new w ⟨0, 0, 0⟩
  have hF0 : ∀ j, (w.alloc (.cells #[.int .i64 0, .int .i64 0, .int .i64 0] 55)).frozen? ⟨w.heap.size, j, none⟩ = false := fun j => by simp
  have hC0 := h.below (hB0.mono hBw)
  go_enter Try.func39, Try.ntmps39
  go_wp2_with fail
  generalize hW : w.alloc _ = w0 at *
  clear hW
  have hz0 := hA0.1
  refine (r_Open B C len cap _ hC0).mono ?_
  rintro e w1 ⟨rfl, hR1, hb1, hs1⟩
  go_wp2_with fail
  refine (r_labels _ C len cap _ hR1).mono ?_
  rintro e w2 ⟨v, l, rfl, ho, hl1, hl5, hR2, hO2⟩
  go_wp2_with fail
  refine (r_off _ C len cap _ _ _ (by omega) (by omega) (by omega) (by omega) hR2).mono ?_
  rintro e w3 ⟨x, rfl, _, _, hR3, hO3⟩
  go_wp2_with fail
  refine (r_below _ C len cap _ _ (by omega) hR3).mono ?_
  rintro e w4 ⟨y, rfl, _, _, hR4, hO4⟩
  go_wp2_with fail
  refine (r_below _ C len cap _ _ (by omega) hR4).mono ?_
  rintro e w5 ⟨z, rfl, _, _, hR5, hO5⟩
  have hO := (hO3.trans hO4).trans hO5
  have ho5 := own_kept ho hO (fun k hk => by have := (World.ownsRow.lt ho k hk).1; simp; omega)
  have hb5 : Below w0.heap.size w0 w5 := hb1.trans ((hO2.trans hO).below (Nat.le_refl _) hb1.size)
  have hA5 := hA0.below hb5
  have x0 := hA5.2.1
  have x1 := hA5.2.2.1
  have x2 := hA5.2.2.2
  have f0 := (World.frozen?_of_block (a := ⟨w.heap.size, 0, none⟩) (hb5.block w.heap.size hz0)).trans (hF0 0)
  have f1 := (World.frozen?_of_block (a := ⟨w.heap.size, 1, none⟩) (hb5.block w.heap.size hz0)).trans (hF0 1)
  have f2 := (World.frozen?_of_block (a := ⟨w.heap.size, 2, none⟩) (hb5.block w.heap.size hz0)).trans (hF0 2)
  have hsz := hb1.size
  obtain ⟨T, c, rfl⟩ := ho.form
  go_wp2
  refine bodyPost_ret (v := .tuple #[.slice T l.length c, .agg #[.int .i64 x, .int .i64 y, .int .i64 z]]) ?_ rfl ?_
  · simp [results, Try.results39, go_sem, x0, x1, x2]
  · refine ⟨_, l, ⟨x, y, z⟩, rfl, ?_, hl1, hl5, ?_⟩
    · exact (own_kept ho5 (grown_set (grown_set (grown_set (grownBy_refl w5 (some w.heap.size)) _ _ rfl) _ _ rfl) _ _ rfl) (fun b hb => by have := (World.ownsRow.lt ho b hb).1; simp; omega)).mono (by omega)
    · exact below_set (below_set (below_set (hB0.trans (hb5.mono (by omega))) _ _ (Nat.le_refl _)) _ _ (Nat.le_refl _)) _ _ (Nat.le_refl _)
theorem pu_back {l : List LbV} {m : LbV} (h : puB l m = true) : puR l m = m :: l ∧ poB (m :: l) = true ∧ poR (m :: l) = l ∧ poQ (m :: l) = m ∧ lbsB l = true ∧ lbsB (m :: l) = true := by
  have e := puB_spec l m
  rw [h] at e
  have e2 := e.symm
  rw [Bool.and_eq_true] at e2
  obtain ⟨h1, h2⟩ := e2
  have hl := (lbsB_len h1).1
  have hp : poB (m :: l) = true := by unfold poB; rw [h2, decide_eq_false (by simp; intro hh; rw [hh] at hl; simp at hl)]; rfl
  refine ⟨by unfold puR; rw [h]; rfl, hp, by unfold poR; rw [hp]; rfl, by unfold poQ; rw [hp]; rfl, h1, h2⟩
theorem mp_len2 {l : List LbV} (h : lbsB l = true) : (str (mpText l ⟨#[97, 98]⟩)).size = 4 * l.length + 6 := by
  have e : mpText l ⟨#[97, 98]⟩ = mpHd l l.length ++ be 4 0 ++ bl ⟨#[97, 98]⟩ := by unfold mpText; rw [h]; rfl
  rw [e, str_size, List.length_append, List.length_append, mpHd_len, be_length]; rfl
set_option maxRecDepth 100000 in
set_option maxHeartbeats 12800000 in
theorem walk_FnPushed (a : Option Addr) (len cap : Nat) (zs : List Int) (w : World) (w0 : IsRow .u8 w a len cap zs) :
    Calls Try.prog 9 #[.slice a len cap] w fun e w' => e = .returned (.bool true) ∧ Below w.heap.size w w' := by
  have hl := row_len w0
  by_cases hz : 1048576 < len
  · go_enter Try.func9, Try.ntmps9
    go_wp2
    go_ret
    exact ⟨rfl, Below.refl _ _⟩
  · have hCo := code_of_row w0 (by omega)
    clear w0
    go_enter Try.func9, Try.ntmps9
    go_wp2_with fail
    refine (big_no _ _ _ _ (by omega)).mono ?_
    rintro e w' ⟨rfl, rfl⟩
    go_wp2_with fail
    refine (d_Pushed _ a len cap _ hCo (Nat.le_refl _)).mono ?_
    rintro e w1 ⟨vL, l, m, rfl, hL, hl1, hl5, hb⟩
    clear hCo
    rcases hL.shape with ⟨_, hn, _⟩ | ⟨gL, cL, rfl, _, _, hcL, _⟩
    · omega
    have hms : ∀ (m : List LbV) (S1 S2 : Option Addr) (c1 c2 : Nat) (u : World), m.length ≤ 10 → IntsAt u S1 (lbF m) → IntsAt u S2 (lbF m) → Calls Try.prog 38 #[.slice S1 m.length c1, .slice S2 m.length c2] u fun e w' => e = .returned (.bool true) ∧ Below u.heap.size u w' := fun m S1 S2 c1 c2 u hm h1 h2 => l_sameLabels S1 S2 c1 c2 m u h1 h2 (by omega)
    have CIP : Hid (∀ u : World, IntsAt u (some ⟨gL, 0, none⟩) (lbF l) → Calls Try.prog 40 #[.slice (some ⟨gL, 0, none⟩) l.length cL, .agg (lbL m)] u fun e w' => ∃ v, e = .returned (.tuple #[v, .bool (puB l m)]) ∧ ownR w' u.heap.size 55 3 v (puR l m).length (lbF (puR l m)) ∧ Below u.heap.size u w') := fun u hu => i_Pushed gL 0 cL l m u hu (by omega)
    have CSP : Hid (∀ u : World, IntsAt u (some ⟨gL, 0, none⟩) (lbF l) → Calls Try.prog 41 #[.slice (some ⟨gL, 0, none⟩) l.length cL, .agg (lbL m)] u fun e w' => ∃ v, e = .returned (.tuple #[v, .bool (puB l m)]) ∧ ownR w' u.heap.size 55 3 v (puR l m).length (lbF (puR l m)) ∧ Below u.heap.size u w') := fun u hu => s_Pushed gL 0 cL l m u hu (by omega)
    have CIQ : Hid (∀ u : World, IntsAt u (some ⟨gL, 0, none⟩) (lbF l) → Calls Try.prog 42 #[.slice (some ⟨gL, 0, none⟩) l.length cL] u fun e w' => ∃ v, e = .returned (.tuple #[v, .agg (lbL (poQ l)), .bool (poB l)]) ∧ ownR w' u.heap.size 55 3 v (poR l).length (lbF (poR l)) ∧ Below u.heap.size u w') := fun u hu => i_Popped gL 0 cL l u hu hcL (by omega)
    have CSQ : Hid (∀ u : World, IntsAt u (some ⟨gL, 0, none⟩) (lbF l) → Calls Try.prog 43 #[.slice (some ⟨gL, 0, none⟩) l.length cL] u fun e w' => ∃ v, e = .returned (.tuple #[v, .agg (lbL (poQ l)), .bool (poB l)]) ∧ ownR w' u.heap.size 55 3 v (poR l).length (lbF (poR l)) ∧ Below u.heap.size u w') := fun u hu => s_Popped gL 0 cL l u hu hcL (by omega)
    have hpu := puR_len l m
    have hpo := poR_len l
    have HPB : Hid (puB l m = true → puR l m = m :: l ∧ poB (m :: l) = true ∧ poR (m :: l) = l ∧ poQ (m :: l) = m ∧ lbsB l = true ∧ lbsB (m :: l) = true) := fun h => pu_back h
    have hml : (m :: l).length = l.length + 1 := rfl
    have CMS : Hid (∀ (S1 S2 : Option Addr) (c1 c2 : Nat) (u : World), IntsAt u S1 (lbF (puR l m)) → IntsAt u S2 (lbF (puR l m)) → Calls Try.prog 38 #[.slice S1 (puR l m).length c1, .slice S2 (puR l m).length c2] u fun e w' => e = .returned (.bool true) ∧ Below u.heap.size u w') := fun S1 S2 c1 c2 u h1 h2 => hms _ S1 S2 c1 c2 u (by omega) h1 h2
    have CMQ : Hid (∀ (S1 S2 : Option Addr) (c1 c2 : Nat) (u : World), IntsAt u S1 (lbF (poR l)) → IntsAt u S2 (lbF (poR l)) → Calls Try.prog 38 #[.slice S1 (poR l).length c1, .slice S2 (poR l).length c2] u fun e w' => e = .returned (.bool true) ∧ Below u.heap.size u w') := fun S1 S2 c1 c2 u h1 h2 => hms _ S1 S2 c1 c2 u (by omega) h1 h2
    have CML : Hid (∀ (S1 S2 : Option Addr) (c1 c2 : Nat) (u : World), IntsAt u S1 (lbF l) → IntsAt u S2 (lbF l) → Calls Try.prog 38 #[.slice S1 l.length c1, .slice S2 l.length c2] u fun e w' => e = .returned (.bool true) ∧ Below u.heap.size u w') := fun S1 S2 c1 c2 u h1 h2 => hms _ S1 S2 c1 c2 u (by omega) h1 h2
    have CQ2 : Hid (puB l m = true → ∀ (g c : Nat) (u : World), l.length + 1 ≤ c → IntsAt u (some ⟨g, 0, none⟩) (lbF (m :: l)) → Calls Try.prog 42 #[.slice (some ⟨g, 0, none⟩) (l.length + 1) c] u fun e w' => ∃ v, e = .returned (.tuple #[v, .agg (lbL m), .bool true]) ∧ ownR w' u.heap.size 55 3 v l.length (lbF l) ∧ Below u.heap.size u w') := fun h g c u hc hu => by
      obtain ⟨_, q1, q2, q3, _⟩ := pu_back h
      have := i_Popped g 0 c (m :: l) u hu (by rw [hml]; exact hc) (by rw [hml]; omega)
      rw [q1, q2, q3] at this; exact this
    have CB1 : Hid (puB l m = true → ∀ (S : Option Addr) (c : Nat) (u : World), IntsAt u S (lbF (m :: l)) → Calls Try.prog 33 #[.slice S (l.length + 1) c, .string ⟨#[97, 98]⟩] u fun e w' => ∃ t : ByteArray, e = .returned (.string t) ∧ t.size = 4 * l.length + 10 ∧ Below u.heap.size u w') := fun h S c u hu => by
      obtain ⟨_, _, _, _, _, q5⟩ := pu_back h
      refine (i_MplsBytes S c (m :: l) ⟨#[97, 98]⟩ u hu (by rw [hml]; omega) (by decide)).mono ?_
      rintro e w' ⟨rfl, hb⟩
      exact ⟨_, rfl, by rw [mp_len2 q5, hml]; omega, hb⟩
    have CB2 : Hid (puB l m = true → ∀ (S : Option Addr) (c : Nat) (u : World), IntsAt u S (lbF l) → Calls Try.prog 33 #[.slice S l.length c, .string ⟨#[97, 98]⟩] u fun e w' => ∃ t : ByteArray, e = .returned (.string t) ∧ t.size = 4 * l.length + 6 ∧ Below u.heap.size u w') := fun h S c u hu => by
      obtain ⟨_, _, _, _, q4, _⟩ := pu_back h
      refine (i_MplsBytes S c l ⟨#[97, 98]⟩ u hu (by omega) (by decide)).mono ?_
      rintro e w' ⟨rfl, hb⟩
      exact ⟨_, rfl, by rw [mp_len2 q4], hb⟩
    have HPR : Hid (puB l m = true → (puR l m).length = l.length + 1 ∧ lbF (puR l m) = lbF (m :: l)) := fun h => by rw [(pu_back h).1]; exact ⟨rfl, rfl⟩
    clear HPB hms
    generalize lbF (m :: l) = fml at *
    generalize poR l = pr2 at *
    generalize poB l = pb2 at *
    generalize poQ l = pq at *
    generalize puR l m = pr at *
    generalize puB l m = pb at *
    obtain ⟨mx, my, mz⟩ := m
    obtain ⟨qx, qy, qz⟩ := pq
    simp only [lbL] at *
    have hM : Bxl (w1.alloc (.cells #[.int .i64 mx, .int .i64 my, .int .i64 mz] 55)) w1.heap.size ⟨mx, my, mz⟩ := Bxl.new w1 ⟨mx, my, mz⟩
    replace hL := hL.alloc (.cells #[.int .i64 mx, .int .i64 my, .int .i64 mz] 55)
    replace hb := hb.alloc hb.size (.cells #[.int .i64 mx, .int .i64 my, .int .i64 mz] 55)
    have nq := neLabel qx qy qz
    have eq := eqLabel_same qx qy qz
    have eqm := eqLabel_same mx my mz
    have hpb : (pb != pb) = false := by simp
    have hpb2 : (pb2 != pb2) = false := by simp
    go_wp2_with fail
    generalize hWg : w1.alloc _ = w2 at *
    clear hWg
    have m0 := hM.2.1
    have m1 := hM.2.2.1
    have m2 := hM.2.2.2
    go_at_call 40
    refine (CIP.out _ hL.reads.2).mono ?_
    rintro e w3 ⟨vP, rfl, hP, hbq⟩
    have hPs := hP.shape
    replace hL := hL.far hbq
    replace hM := hM.below hbq
    replace hb := hb.trans (hbq.mono hb.size)
    clear hbq
    clear m0 m1 m2
    have m0 := hM.2.1
    have m1 := hM.2.2.1
    have m2 := hM.2.2.2
    go_wp2_with fail
    go_at_call 41
    refine (CSP.out _ hL.reads.2).mono ?_
    rintro e w4 ⟨vW, rfl, hW, hbq⟩
    obtain ⟨TW, cW, rfl⟩ := hW.form
    replace hL := hL.far hbq
    replace hP := hP.far hbq
    replace hM := hM.below hbq
    replace hb := hb.trans (hbq.mono hb.size)
    clear hbq
    clear m0 m1 m2
    go_wp2_with fail
    go_at_call 42
    refine (CIQ.out _ hL.reads.2).mono ?_
    rintro e w5 ⟨vU, rfl, hU, hbq⟩
    obtain ⟨TU, cU, rfl⟩ := hU.form
    replace hL := hL.far hbq
    replace hP := hP.far hbq
    replace hW := hW.far hbq
    replace hM := hM.below hbq
    replace hb := hb.trans (hbq.mono hb.size)
    clear hbq
    have hV : Bxl (w5.alloc (.cells #[.int .i64 qx, .int .i64 qy, .int .i64 qz] 55)) w5.heap.size ⟨qx, qy, qz⟩ := Bxl.new w5 ⟨qx, qy, qz⟩
    have hbq := (Below.refl w5.heap.size w5).alloc (Nat.le_refl _) (.cells #[.int .i64 qx, .int .i64 qy, .int .i64 qz] 55)
    replace hL := hL.far hbq
    replace hP := hP.far hbq
    replace hW := hW.far hbq
    replace hU := hU.far hbq
    replace hM := hM.below hbq
    replace hb := hb.trans (hbq.mono hb.size)
    clear hbq
    go_wp2_with fail
    generalize hWg : w5.alloc _ = w6 at *
    clear hWg
    go_at_call 43
    refine (CSQ.out _ hL.reads.2).mono ?_
    rintro e w7 ⟨vZ, rfl, hZ, hbq⟩
    obtain ⟨TZ, cZ, rfl⟩ := hZ.form
    replace hL := hL.far hbq
    replace hP := hP.far hbq
    replace hW := hW.far hbq
    replace hU := hU.far hbq
    replace hM := hM.below hbq
    replace hV := hV.below hbq
    replace hb := hb.trans (hbq.mono hb.size)
    clear hbq
    have hX : Bxl (w7.alloc (.cells #[.int .i64 qx, .int .i64 qy, .int .i64 qz] 55)) w7.heap.size ⟨qx, qy, qz⟩ := Bxl.new w7 ⟨qx, qy, qz⟩
    have hbq := (Below.refl w7.heap.size w7).alloc (Nat.le_refl _) (.cells #[.int .i64 qx, .int .i64 qy, .int .i64 qz] 55)
    replace hL := hL.far hbq
    replace hP := hP.far hbq
    replace hW := hW.far hbq
    replace hU := hU.far hbq
    replace hZ := hZ.far hbq
    replace hM := hM.below hbq
    replace hV := hV.below hbq
    replace hb := hb.trans (hbq.mono hb.size)
    clear hbq
    obtain ⟨TP, cP, rfl⟩ := hP.form
    cases pb
    · skip
      go_wp2_with fail
      generalize hWg : w7.alloc _ = w8 at *
      clear hWg
      go_at_call 38
      refine (CMS.out _ _ _ _ _ hP.reads.2 hW.reads.2).mono ?_
      rintro e w9 ⟨rfl, hbq⟩
      replace hL := hL.far hbq
      replace hP := hP.far hbq
      replace hW := hW.far hbq
      replace hU := hU.far hbq
      replace hZ := hZ.far hbq
      replace hM := hM.below hbq
      replace hV := hV.below hbq
      replace hX := hX.below hbq
      replace hb := hb.trans (hbq.mono hb.size)
      clear hbq
      have v0 := hV.2.1
      have v1 := hV.2.2.1
      have v2 := hV.2.2.2
      have x0 := hX.2.1
      have x1 := hX.2.2.1
      have x2 := hX.2.2.2
      go_wp2_with fail
      go_at_call 38
      refine (CMQ.out _ _ _ _ _ hU.reads.2 hZ.reads.2).mono ?_
      rintro e w10 ⟨rfl, hbq⟩
      clear v0 v1 v2 x0 x1 x2
      replace hL := hL.far hbq
      replace hP := hP.far hbq
      replace hW := hW.far hbq
      replace hU := hU.far hbq
      replace hZ := hZ.far hbq
      replace hM := hM.below hbq
      replace hV := hV.below hbq
      replace hX := hX.below hbq
      replace hb := hb.trans (hbq.mono hb.size)
      clear hbq
      go_wp2_with fail
      go_at_call 38
      refine (CMS.out _ _ _ _ _ hP.reads.2 hW.reads.2).mono ?_
      rintro e w11 ⟨rfl, hbq⟩
      replace hL := hL.far hbq
      replace hP := hP.far hbq
      replace hW := hW.far hbq
      replace hU := hU.far hbq
      replace hZ := hZ.far hbq
      replace hM := hM.below hbq
      replace hV := hV.below hbq
      replace hX := hX.below hbq
      replace hb := hb.trans (hbq.mono hb.size)
      clear hbq
      have v0 := hV.2.1
      have v1 := hV.2.2.1
      have v2 := hV.2.2.2
      have x0 := hX.2.1
      have x1 := hX.2.2.1
      have x2 := hX.2.2.2
      go_wp2_with fail
      go_at_call 38
      refine (CMQ.out _ _ _ _ _ hU.reads.2 hZ.reads.2).mono ?_
      rintro e w12 ⟨rfl, hbq⟩
      clear v0 v1 v2 x0 x1 x2
      replace hL := hL.far hbq
      replace hP := hP.far hbq
      replace hW := hW.far hbq
      replace hU := hU.far hbq
      replace hZ := hZ.far hbq
      replace hM := hM.below hbq
      replace hV := hV.below hbq
      replace hX := hX.below hbq
      replace hb := hb.trans (hbq.mono hb.size)
      clear hbq
      go_wp2
      go_ret
      exact ⟨rfl, hb⟩
    · skip
      go_wp2_with fail
      generalize hWg : w7.alloc _ = w8 at *
      clear hWg
      go_at_call 38
      refine (CMS.out _ _ _ _ _ hP.reads.2 hW.reads.2).mono ?_
      rintro e w9 ⟨rfl, hbq⟩
      replace hL := hL.far hbq
      replace hP := hP.far hbq
      replace hW := hW.far hbq
      replace hU := hU.far hbq
      replace hZ := hZ.far hbq
      replace hM := hM.below hbq
      replace hV := hV.below hbq
      replace hX := hX.below hbq
      replace hb := hb.trans (hbq.mono hb.size)
      clear hbq
      have v0 := hV.2.1
      have v1 := hV.2.2.1
      have v2 := hV.2.2.2
      have x0 := hX.2.1
      have x1 := hX.2.2.1
      have x2 := hX.2.2.2
      go_wp2_with fail
      go_at_call 38
      refine (CMQ.out _ _ _ _ _ hU.reads.2 hZ.reads.2).mono ?_
      rintro e w10 ⟨rfl, hbq⟩
      clear v0 v1 v2 x0 x1 x2
      replace hL := hL.far hbq
      replace hP := hP.far hbq
      replace hW := hW.far hbq
      replace hU := hU.far hbq
      replace hZ := hZ.far hbq
      replace hM := hM.below hbq
      replace hV := hV.below hbq
      replace hX := hX.below hbq
      replace hb := hb.trans (hbq.mono hb.size)
      clear hbq
      obtain ⟨hp1, hp2⟩ := HPR.out (by trivial)
      rw [hp1, hp2] at hP
      rw [hp1] at hPs ⊢
      rcases hPs with ⟨_, hn, _⟩ | ⟨gP, cP2, hPe, _, _, hcP, _⟩
      · omega
      simp only [Value.slice.injEq, true_and] at hPe
      obtain ⟨rfl, rfl⟩ := hPe
      go_wp2_with fail
      go_at_call 42
      refine (CQ2.out (by trivial) _ _ _ hcP hP.reads.2).mono ?_
      rintro e w11 ⟨vN, rfl, hN, hbq⟩
      obtain ⟨TN, cN, rfl⟩ := hN.form
      replace hL := hL.far hbq
      replace hP := hP.far hbq
      replace hM := hM.below hbq
      replace hb := hb.trans (hbq.mono hb.size)
      clear hbq
      have hQ : Bxl (w11.alloc (.cells #[.int .i64 mx, .int .i64 my, .int .i64 mz] 55)) w11.heap.size ⟨mx, my, mz⟩ := Bxl.new w11 ⟨mx, my, mz⟩
      have hbq := (Below.refl w11.heap.size w11).alloc (Nat.le_refl _) (.cells #[.int .i64 mx, .int .i64 my, .int .i64 mz] 55)
      replace hL := hL.far hbq
      replace hP := hP.far hbq
      replace hN := hN.far hbq
      replace hM := hM.below hbq
      replace hb := hb.trans (hbq.mono hb.size)
      clear hbq
      have v0 := hQ.2.1
      have v1 := hQ.2.2.1
      have v2 := hQ.2.2.2
      have x0 := hM.2.1
      have x1 := hM.2.2.1
      have x2 := hM.2.2.2
      go_wp2_with fail
      generalize hWg : w11.alloc _ = w12 at *
      clear hWg
      go_at_call 38
      refine (CML.out _ _ _ _ _ hN.reads.2 hL.reads.2).mono ?_
      rintro e w13 ⟨rfl, hbq⟩
      clear v0 v1 v2 x0 x1 x2
      replace hL := hL.far hbq
      replace hP := hP.far hbq
      replace hb := hb.trans (hbq.mono hb.size)
      clear hbq
      go_wp2_with fail
      go_at_call 33
      refine (CB1.out (by trivial) _ _ _ hP.reads.2).mono ?_
      rintro e w14 ⟨t1, rfl, ht1, hbq⟩
      replace hL := hL.far hbq
      replace hb := hb.trans (hbq.mono hb.size)
      clear hbq
      go_wp2_with fail
      go_at_call 33
      refine (CB2.out (by trivial) _ _ _ hL.reads.2).mono ?_
      rintro e w15 ⟨t2, rfl, ht2, hbq⟩
      replace hb := hb.trans (hbq.mono hb.size)
      clear hbq
      have hle : ((t1.size : Int) == (t2.size : Int) + 4) = true := by rw [beq_iff_eq]; omega
      go_wp2
      go_ret
      exact ⟨by first | rfl | exact ret_bool (by simp; omega) | exact ret_bool (by simp), hb⟩
end Go.Proofs.Ytlnhiaapjphefaa
