/-
  Frames that are taken off a text, plainly; by the model.
-/
import Derived.Test.YteflhnmoceppgaaDoorCrc3
import Derived.Test.YteflhnmoceppgaaDoorStrl
import Derived.Test.YteflhnmoceppgaaDoorRdr
namespace Go.Proofs.YteflhnmoceppgaaDoor
open Go.RowKit Go.PlainAid
/-- how many bytes of data the frame at a says that it has -/
def tkN (s : ByteArray) (a : Nat) : Nat := (num (((bl s).drop a).take 4)).toNat
def tkD (s : ByteArray) (a : Nat) : ByteArray := s.extract (a + 8) (a + 8 + tkN s a)
/-- whether a frame stands at a -/
def tkOk (s : ByteArray) (a : Nat) : Bool := decide (a + 8 ≤ s.size) && decide (tkN s a ≤ 100000) && decide (a + 8 + tkN s a ≤ s.size) && (le4 (crcOf (bl (tkD s a))) == (s.extract (a + 4) (a + 8)).toList)
theorem tkOk_in {s : ByteArray} {a : Nat} (h : tkOk s a = true) : a + 8 ≤ s.size ∧ tkN s a ≤ 100000 ∧ a + 8 + tkN s a ≤ s.size := by
  unfold tkOk at h
  simp only [Bool.and_eq_true, decide_eq_true_eq] at h
  exact ⟨h.1.1.1, h.1.1.2, h.1.2⟩
def tkF : Nat → ByteArray → Nat → List ByteArray × Nat
  | 0, _, a => ([], a)
  | f + 1, s, a => if tkOk s a then (tkD s a :: (tkF f s (a + 8 + tkN s a)).1, (tkF f s (a + 8 + tkN s a)).2) else ([], a)
theorem tkF_fuel : ∀ f f' s a, s.size < f + a → s.size < f' + a → tkF f s a = tkF f' s a := by
  intro f
  induction f with
  | zero =>
    intro f' s a h h'
    have hn : tkOk s a = false := by
      cases e : tkOk s a
      · rfl
      · have := tkOk_in e; omega
    cases f' with
    | zero => rfl
    | succ f' => unfold tkF; rw [hn]; rfl
  | succ f ih =>
    intro f' s a h h'
    cases hn : tkOk s a
    · cases f' with
      | zero => unfold tkF; rw [hn]; rfl
      | succ f' => unfold tkF; rw [hn]; rfl
    · have hi := tkOk_in hn
      cases f' with
      | zero => omega
      | succ f' => unfold tkF; rw [hn, ih f' s _ (by omega) (by omega)]
def tkR (s : ByteArray) (a : Nat) : List ByteArray × Nat := tkF (s.size + 1) s a
theorem tkR_go {s : ByteArray} {a : Nat} (h : tkOk s a = true) : (tkR s a).1 = tkD s a :: (tkR s (a + 8 + tkN s a)).1 ∧ (tkR s a).2 = (tkR s (a + 8 + tkN s a)).2 := by
  have hi := tkOk_in h
  have e : tkF s.size s (a + 8 + tkN s a) = tkF (s.size + 1) s (a + 8 + tkN s a) := tkF_fuel _ _ _ _ (by omega) (by omega)
  unfold tkR
  conv => lhs; unfold tkF
  conv => rhs; lhs; unfold tkF
  rw [h, e]
  exact ⟨rfl, rfl⟩
theorem tkR_end {s : ByteArray} {a : Nat} (h : tkOk s a = false) : tkR s a = ([], a) := by
  unfold tkR tkF; rw [h]; rfl
theorem tkN_bd (s : ByteArray) (a : Nat) : 0 ≤ num (((bl s).drop a).take 4) ∧ num (((bl s).drop a).take 4) ≤ 4294967295 := by
  have h := num_bounds (((bl s).drop a).take 4)
  have h2 : (((bl s).drop a).take 4).length ≤ 4 := by rw [List.length_take]; omega
  have h3 : (256 : Int) ^ (((bl s).drop a).take 4).length ≤ 256 ^ 4 := ipow_le h2
  have h4 : (256 : Int) ^ 4 = 4294967296 := by decide
  omega
theorem tkF_len : ∀ f s a, (tkF f s a).1.length ≤ f := by
  intro f
  induction f with
  | zero => intro s a; simp [tkF]
  | succ f ih => intro s a; unfold tkF; split; (· have := ih s (a + 8 + tkN s a); simp; omega); (· simp)
set_option maxRecDepth 100000 in
set_option maxHeartbeats 6400000 in
theorem s_TakeFrames (s : ByteArray) (w : World) (hs : s.size ≤ 1048576) :
    Calls Tryd.prog 7 #[.string s] w fun e w' => ∃ v, e = .returned (.tuple #[v, .int .i64 ((tkR s 0).2 : Int)]) ∧ ownV w' w.heap.size 9 1 v (tkR s 0).1.length (stF (tkR s 0).1) ∧ Below w.heap.size w w' := by
  have CL : Hid (∀ (t : ByteArray) (u : World), t.size ≤ 1099511627776 → Calls Tryd.prog 20 #[.string t] u fun e w' => e = .returned (.string (str (le4 (crcOf (bl t))))) ∧ Below u.heap.size u w') := fun t u ht => s_l12Sum t u ht
  have hmade := World.ownsRow_made (base := w.heap.size) (e := 9) (size := 1) w #[] 0 (Nat.le_refl _) (by decide) rfl
  have hBm := (Below.refl w.heap.size w).alloc (Nat.le_refl _) (.cells #[] 9)
  go_enter Tryd.func7, Tryd.ntmps7
  go_wp2_with fail
  go_loopw [4, 5] (fun o i wr => ∃ (a : Nat) (L : List ByteArray), i = .int .i64 (a : Int) ∧ a ≤ s.size ∧ Hid ((tkR s 0).1 = L ++ (tkR s a).1 ∧ (tkR s 0).2 = (tkR s a).2) ∧ L.length ≤ a ∧ ownV wr w.heap.size 9 1 o L.length (stF L) ∧ Below w.heap.size w wr) (fun _ i _ => ((s.size : Int) - intOf i).toNat)
  case atStart => exact ⟨0, [], rfl, by omega, ⟨rfl, rfl⟩, by simp, hmade, hBm⟩
  case round =>
    clear hmade hBm
    obtain ⟨a, L, rfl, ha, HR, hLa, hown, hB⟩ := hrel
    obtain ⟨T, c, rfl⟩ := hown.form
    by_cases h8 : a + 8 ≤ s.size
    · have h8i : (a : Int) + 8 ≤ (s.size : Int) := by omega
      have hnb := tkN_bd s a
      go_wp2_with fail
      go_loopw [6, 7] (fun n i wr2 => ∃ k : Nat, k ≤ 4 ∧ n = .int .i64 (num (((bl s).drop a).take k)) ∧ i = .int .i64 (k : Int) ∧ wr2 = wr) (fun _ i _ => ((4 : Int) - intOf i).toNat)
      case atStart => exact ⟨0, by omega, rfl, rfl, rfl⟩
      case round =>
        obtain ⟨k, hk, rfl, rfl, hwr⟩ := hrel
        subst hwr
        by_cases hk4 : k < 4
        · have hki : (k : Int) < 4 := by omega
          have HS : Hid (num (((bl s).drop a).take (k + 1)) = num (((bl s).drop a).take k) * 256 + bt s (a + k)) := num_take_succ s a k (by omega)
          obtain ⟨hb1, hb2⟩ := num_take_bd6 ((bl s).drop a) k (by omega)
          obtain ⟨X, hX⟩ : ∃ X, X = num (((bl s).drop a).take k) := ⟨_, rfl⟩
          rw [← hX] at hb1 hb2 HS ⊢
          have hbt := get_bt s
          have hc0 := bt_nonneg s (a + k)
          have hc1 := bt_le s (a + k)
          clear hX hown hB HR CL
          go_wp2
          go_roundw
          case rel => exact ⟨k + 1, by omega, by rw [HS.out, Int.mul_comm], by go_num, by first | rfl | trivial⟩
          case measure => simp [intOf]; omega
        · have hkk : k = 4 := by omega
          subst hkk
          have hN : num (((bl s).drop a).take 4) = (tkN s a : Int) := by unfold tkN; omega
          rw [hN]
          rw [hN] at hnb
          have HEN : tkOk s a = false → Hid ((tkR s 0).1 = L ∧ (tkR s 0).2 = a) := fun hn => by
            have := HR.out
            rw [tkR_end hn] at this
            exact ⟨by simpa using this.1, this.2⟩
          have hok : tkOk s a = (decide (tkN s a ≤ 100000) && decide (a + 8 + tkN s a ≤ s.size) && (le4 (crcOf (bl (tkD s a))) == (s.extract (a + 4) (a + 8)).toList)) := by
            unfold tkOk; rw [decide_eq_true h8]; rfl
          have hGO : tkOk s a = true → Hid ((tkR s 0).1 = (L ++ [tkD s a]) ++ (tkR s (a + 8 + tkN s a)).1 ∧ (tkR s 0).2 = (tkR s (a + 8 + tkN s a)).2) := fun hn => by
            have h1 := HR.out
            have h2 := tkR_go hn
            exact ⟨by rw [h1.1, h2.1]; simp, by rw [h1.2, h2.2]⟩
          have HOK : Hid (tkOk s a = true ↔ tkN s a ≤ 100000 ∧ a + 8 + tkN s a ≤ s.size ∧ (le4 (crcOf (bl (tkD s a))) == (s.extract (a + 4) (a + 8)).toList) = true) := by
            show _ ↔ _
            rw [hok]; simp only [Bool.and_eq_true, decide_eq_true_eq, and_assoc]
          have HNK : ∀ P : Prop, (tkOk s a = true → P) → ¬ P → tkOk s a = false := fun P h hp => by
            cases e : tkOk s a
            · rfl
            · exact absurd (h e) hp
          have hD : tkD s a = s.extract (a + 8) (a + 8 + tkN s a) := rfl
          clear hok HR hk
          generalize tkN s a = N at *
          have hN1 : ((N : Nat) : Int) ≤ 4294967295 := hnb.2
          clear hN hnb
          by_cases hn1 : N ≤ 100000
          case neg =>
            have hni : (100000 : Int) < (N : Int) := by omega
            have hni2 : 100000 < N := by omega
            have hni3 : decide ((100000 : Int) < (N : Int)) = true := decide_eq_true hni
            have HE := HEN (HNK _ (fun h => (HOK.out.1 h).1) hn1)
            clear HEN hGO HOK HNK hn1 hD
            go_wp2_with fail
            have hne := BW.some wr
            refine wp_region_below (by kernel_rfl) (by kernel_rfl) ?_
            repeat (go_big_quiet_step (first | (go_at_call 20; exact Calls.into (CL.out _ _ (by simp; omega)))))
            refine wpQuiet_nil ?_
            intro _ hw'
            obtain ⟨u, hw''⟩ := hw'
            subst hw''
            clear hne
            replace hown := hown.far u.le
            replace hB := hB.trans (u.le.mono hB.size)
            go_wp2
            refine bodyPost_ret (v := .tuple #[.slice T L.length c, .int .i64 (a : Int)]) ?_ rfl ⟨_, by rw [HE.out.2], by rw [HE.out.1]; exact hown, hB⟩
            simp [results, Tryd.results7, go_sem]
          case pos =>
            have hni : ¬ (100000 : Int) < (N : Int) := by omega
            have hni2 : ¬ 100000 < N := by omega
            have hni3 : decide ((100000 : Int) < (N : Int)) = false := decide_eq_false hni
            by_cases hn2 : a + 8 + N ≤ s.size
            case neg =>
              have hnj : (s.size : Int) < (a : Int) + 8 + (N : Int) := by omega
              have HE := HEN (HNK _ (fun h => (HOK.out.1 h).2.1) hn2)
              clear HEN hGO HOK HNK hn1 hD hn2
              go_wp2_with fail
              have hne := BW.some wr
              refine wp_region_below (by kernel_rfl) (by kernel_rfl) ?_
              repeat (go_big_quiet_step (first | (go_at_call 20; exact Calls.into (CL.out _ _ (by simp; omega)))))
              refine wpQuiet_nil ?_
              intro _ hw'
              obtain ⟨u, hw''⟩ := hw'
              subst hw''
              clear hne
              replace hown := hown.far u.le
              replace hB := hB.trans (u.le.mono hB.size)
              go_wp2
              refine bodyPost_ret (v := .tuple #[.slice T L.length c, .int .i64 (a : Int)]) ?_ rfl ⟨_, by rw [HE.out.2], by rw [HE.out.1]; exact hown, hB⟩
              simp [results, Tryd.results7, go_sem]
            case pos =>
              have hnj : ¬ (s.size : Int) < (a : Int) + 8 + (N : Int) := by omega
              have hnj3 : decide ((s.size : Int) < (a : Int) + 8 + (N : Int)) = false := decide_eq_false hnj
              go_wp2_with fail
              have hne := BW.some wr
              refine wp_region_below (by kernel_rfl) (by kernel_rfl) ?_
              repeat (go_big_quiet_step (first | (go_at_call 20; exact Calls.into (CL.out _ _ (by simp; omega)))))
              refine wpQuiet_nil ?_
              intro _ hw'
              obtain ⟨u, hw''⟩ := hw'
              subst hw''
              clear hne
              replace hown := hown.far u.le
              replace hB := hB.trans (u.le.mono hB.size)
              rw [hD] at hGO HOK
              have hcc : (le4 (crcOf (bl (s.extract (a + 8) (a + 8 + N)))) == (s.extract (a + 4) (a + 8)).toList) = true ∨ (le4 (crcOf (bl (s.extract (a + 8) (a + 8 + N)))) == (s.extract (a + 4) (a + 8)).toList) = false := by
                cases (le4 (crcOf (bl (s.extract (a + 8) (a + 8 + N)))) == (s.extract (a + 4) (a + 8)).toList)
                · exact .inr rfl
                · exact .inl rfl
              rcases hcc with hq | hq
              · rw [hq, Bool.not_true]
                have HG := hGO (HOK.out.2 ⟨hn1, hn2, hq⟩)
                clear HEN hGO HOK HNK hD CL hni2 hni3 hnj3
                generalize hdd : s.extract (a + 8) (a + 8 + N) = d at *
                generalize hUU : u.u = U at *
                clear hUU
                have ho2 := hown.alloc (.cells #[.string d] 9)
                have hsrc : ∀ j y, [Value.string d][j]? = some y → (U.alloc (.cells #[.string d] 9)).cell? ((⟨U.heap.size, 0, none⟩ : Addr).add j) = some y := fun j y hj => by
                  rw [plain_add, Nat.zero_add]
                  exact (Bx.new U #[.string d] 9).2 j y hj
                have hB2 := hB.alloc hB.size (.cells #[.string d] 9)
                go_wp2_with (refine wpList_append_strs rfl _ _ rfl w.heap.size (.slice T L.length c) L.length (stF L) rfl ho2 ⟨U.heap.size, 0, none⟩ 1 1 [.string d] rfl rfl (stF_one [d]) hsrc (by omega) hB2.size ?_; intro v7 w7 ho7 hb7)
                go_roundw
                case rel => exact ⟨a + 8 + N, L ++ [d], by go_num, by omega, HG, by simp; omega, by rw [stF_app, List.length_append]; exact ho7, hB2.trans hb7⟩
                case measure => simp [intOf]; omega
              · rw [hq, Bool.not_false]
                have HE := HEN (HNK _ (fun h => (HOK.out.1 h).2.2) (by rw [hq]; decide))
                clear HEN hGO HOK HNK hn1 hD hn2 CL
                go_wp2
                refine bodyPost_ret (v := .tuple #[.slice T L.length c, .int .i64 (a : Int)]) ?_ rfl ⟨_, by rw [HE.out.2], by rw [HE.out.1]; exact hown, hB⟩
                simp [results, Tryd.results7, go_sem]
    · have h8i : ¬ (a : Int) + 8 ≤ (s.size : Int) := by omega
      have hn : tkOk s a = false := by
        cases e : tkOk s a
        · rfl
        · have := tkOk_in e; omega
      have HE : Hid ((tkR s 0).1 = L ∧ (tkR s 0).2 = a) := by
        have := HR.out
        rw [tkR_end hn] at this
        exact ⟨by simpa using this.1, this.2⟩
      clear HR CL hn
      go_wp2
      refine bodyPost_ret (v := .tuple #[.slice T L.length c, .int .i64 (a : Int)]) ?_ rfl ⟨_, by rw [HE.out.2], by rw [HE.out.1]; exact hown, hB⟩
      simp [results, Tryd.results7, go_sem]
end Go.Proofs.YteflhnmoceppgaaDoor
