/-
  Contracts on frames: whether it is one, of the program and of the model.
-/
import Derived.Test.YtlpapncgcgllfaaInts
import Derived.Test.YtlpapncgcgllfaaWalks7
namespace Go.Proofs.Ytlpapncgcgllfaa
open Go.RowKit Go.PlainAid

def tagsIn (l : List Int) : Bool := l.all fun x => inB x 0 65535
def tagsB (l : List Int) : Bool := decide (l.length ≤ 2) && tagsIn l
def typeB (t : Int) : Bool := inB t 1536 65535 && (t != 33024)
def frameB (d s : Int) (l : List Int) (t : Int) (x : ByteArray) : Bool := macB d && macB s && tagsB l && typeB t && decide (x.size ≤ 1500)
theorem tagsIn_snoc (l : List Int) (c : Int) : tagsIn (l ++ [c]) = (tagsIn l && inB c 0 65535) := by simp [tagsIn]
theorem tagsIn_take (l : List Int) (k : Nat) (h : k < l.length) : tagsIn (l.take (k + 1)) = (tagsIn (l.take k) && inB (ia l k) 0 65535) := by
  rw [List.take_succ_eq_append_getElem h, tagsIn_snoc, ia_eq l k h]
theorem tagsIn_no {l : List Int} {k : Nat} (h : k < l.length) (hn : inB (ia l k) 0 65535 = false) : tagsIn l = false := by
  rw [ia_eq l k h] at hn
  unfold tagsIn
  rw [List.all_eq_false]
  exact ⟨_, List.getElem_mem h, by rw [hn]; decide⟩

theorem i_isType (t : Int) (w : World) : Calls Try.prog 46 #[.int .i64 t] w fun e w' => e = .returned (.bool (typeB t)) ∧ w' = w := by
  have hc : t < 1536 ∨ 1536 ≤ t ∧ t ≤ 65535 ∧ t = 33024 ∨ 1536 ≤ t ∧ t ≤ 65535 ∧ ¬ t = 33024 ∨ 65535 < t := by omega
  rcases hc with hc | ⟨h1, h2, rfl⟩ | ⟨h1, h2, h3⟩ | hc
  all_goals
    go_enter Try.func46, Try.ntmps46
    go_wp2
    go_ret
    exact ⟨ret_bool (by unfold typeB inB; rw [Bool.eq_iff_iff]; simp <;> omega), rfl⟩

set_option maxRecDepth 100000 in
set_option maxHeartbeats 400000 in
theorem i_areTags (T : Option Addr) (c : Nat) (l : List Int) (w : World) (h : IntsAt w T l) (hl : l.length ≤ 1099511627776) :
    Calls Try.prog 45 #[.slice T l.length c] w fun e w' => e = .returned (.bool (tagsB l)) ∧ w' = w := by
  by_cases h2 : l.length ≤ 2
  · have hB : tagsB l = tagsIn l := by unfold tagsB; simp [h2]
    have HB : Hid (tagsB l = tagsIn l) := hB
    clear hB
    go_enter Try.func45, Try.ntmps45
    go_wp2
    go_loop [10] (fun i => ∃ k : Nat, k ≤ l.length ∧ i = .int .i64 (k : Int) ∧ Hid (tagsIn (l.take k) = true)) (fun i => ((l.length : Int) - intOf i).toNat)
    case atStart => exact ⟨0, by omega, rfl, rfl⟩
    case round =>
      obtain ⟨k, hk, rfl, hin⟩ := hrel
      by_cases hlt : k < l.length
      · rcases h with h | ⟨g, off, rfl, hg, hc⟩
        · rw [h] at hlt; simp at hlt
        · have hcell := hc k hlt
          have HT : Hid (tagsIn (l.take (k + 1)) = (tagsIn (l.take k) && inB (ia l k) 0 65535)) := tagsIn_take l k hlt
          clear hc
          cases hi : inB (ia l k) 0 65535
          · have Hno : Hid (tagsIn l = false) := tagsIn_no hlt hi
            go_wp2_with (go_at_call 50; refine (i_isPair _ _).mono ?_; rintro e w' ⟨rfl, rfl⟩)
            go_ret
            exact ⟨ret_bool (by rw [HB.out, Hno.out]), rfl⟩
          · go_wp2_with (go_at_call 50; refine (i_isPair _ _).mono ?_; rintro e w' ⟨rfl, rfl⟩)
            go_round
            case rel => exact ⟨k + 1, by omega, by go_num, by show _ = _; rw [HT.out, hin.out, hi]; rfl⟩
            case measure => simp [intOf]; omega
      · have hT : l.take k = l := List.take_of_length_le (by omega)
        rw [hT] at hin
        go_wp2
        go_ret
        exact ⟨ret_bool (by rw [HB.out, hin.out]), rfl⟩
  · have HB : Hid (tagsB l = false) := by show _ = _; unfold tagsB; simp [h2]
    go_enter Try.func45, Try.ntmps45
    go_wp2
    go_ret
    exact ⟨ret_bool HB.out.symm, rfl⟩

set_option maxRecDepth 100000 in
set_option maxHeartbeats 800000 in
theorem i_FrameOk (d s : Int) (T : Option Addr) (c : Nat) (l : List Int) (t : Int) (x : ByteArray) (w : World) (h : IntsAt w T l) (hl : l.length ≤ 1099511627776) (hx : x.size ≤ 1099511627776) :
    Calls Try.prog 19 #[.agg #[.int .i64 d, .int .i64 s, .slice T l.length c, .int .i64 t, .string x]] w fun e w' => e = .returned (.bool (frameB d s l t x)) ∧ Below w.heap.size w w' := by
  have hb : Below w.heap.size w (w.alloc (.cells #[.int .i64 d, .int .i64 s, .slice T l.length c, .int .i64 t, .string x] 24)) := (Below.refl _ w).alloc (Nat.le_refl _) _
  have h1 := h.alloc (.cells #[.int .i64 d, .int .i64 s, .slice T l.length c, .int .i64 t, .string x] 24)
  have HF : Hid (frameB d s l t x = (macB d && macB s && tagsB l && typeB t && decide (x.size ≤ 1500))) := rfl
  cases e1 : macB d
  · go_enter Try.func19, Try.ntmps19
    go_wp2_with (go_at_call 44; refine (i_isMac _ _).mono ?_; rintro e w' ⟨rfl, rfl⟩)
    go_ret
    exact ⟨ret_bool (by rw [HF.out, e1]; simp), hb⟩
  · cases e2 : macB s
    · go_enter Try.func19, Try.ntmps19
      go_wp2_with (go_at_call 44; refine (i_isMac _ _).mono ?_; rintro e w' ⟨rfl, rfl⟩)
      go_ret
      exact ⟨ret_bool (by rw [HF.out, e2]; simp), hb⟩
    · cases e3 : tagsB l
      · go_enter Try.func19, Try.ntmps19
        go_wp2_with (first | (go_at_call 44; refine (i_isMac _ _).mono ?_; rintro e w' ⟨rfl, rfl⟩) | (go_at_call 45; refine (i_areTags _ _ _ _ h1 hl).mono ?_; rintro e w' ⟨rfl, rfl⟩))
        go_ret
        exact ⟨ret_bool (by rw [HF.out, e3]; simp), hb⟩
      · cases e4 : typeB t
        · go_enter Try.func19, Try.ntmps19
          go_wp2_with (first | (go_at_call 44; refine (i_isMac _ _).mono ?_; rintro e w' ⟨rfl, rfl⟩) | (go_at_call 45; refine (i_areTags _ _ _ _ h1 hl).mono ?_; rintro e w' ⟨rfl, rfl⟩) | (go_at_call 46; refine (i_isType _ _).mono ?_; rintro e w' ⟨rfl, rfl⟩))
          go_ret
          exact ⟨ret_bool (by rw [HF.out, e4]; simp), hb⟩
        · go_enter Try.func19, Try.ntmps19
          go_wp2_with (first | (go_at_call 44; refine (i_isMac _ _).mono ?_; rintro e w' ⟨rfl, rfl⟩) | (go_at_call 45; refine (i_areTags _ _ _ _ h1 hl).mono ?_; rintro e w' ⟨rfl, rfl⟩) | (go_at_call 46; refine (i_isType _ _).mono ?_; rintro e w' ⟨rfl, rfl⟩))
          go_ret
          exact ⟨ret_bool (by rw [HF.out, e1, e2, e3, e4]; simp; omega), hb⟩

set_option maxRecDepth 100000 in
set_option maxHeartbeats 1600000 in
theorem s_FrameOk (d s : Int) (T : Option Addr) (c : Nat) (l : List Int) (t : Int) (x : ByteArray) (w : World) (h : IntsAt w T l) (hl : l.length ≤ 1099511627776) (hx : x.size ≤ 1099511627776) :
    Calls Try.prog 18 #[.agg #[.int .i64 d, .int .i64 s, .slice T l.length c, .int .i64 t, .string x]] w fun e w' => e = .returned (.bool (frameB d s l t x)) ∧ Below w.heap.size w w' := by
  have hb : Below w.heap.size w (w.alloc (.cells #[.int .i64 d, .int .i64 s, .slice T l.length c, .int .i64 t, .string x] 24)) := (Below.refl _ w).alloc (Nat.le_refl _) _
  have h1 := h.alloc (.cells #[.int .i64 d, .int .i64 s, .slice T l.length c, .int .i64 t, .string x] 24)
  have HF : Hid (frameB d s l t x = (macB d && macB s && tagsB l && typeB t && decide (x.size ≤ 1500))) := rfl
  have HTy : Hid (typeB t = (inB t 1536 65535 && (t != 33024))) := rfl
  have HTg : Hid (tagsB l = (decide (l.length ≤ 2) && tagsIn l)) := rfl
  go_enter Try.func18, Try.ntmps18
  go_wp2
  go_loop [3] (fun i => ∃ k : Nat, k ≤ l.length ∧ i = .int .i64 (k : Int) ∧ Hid (tagsIn (l.take k) = true)) (fun i => ((l.length : Int) - intOf i).toNat)
  case atStart => exact ⟨0, by omega, rfl, rfl⟩
  case round =>
    obtain ⟨k, hk, rfl, hin⟩ := hrel
    by_cases hlt : k < l.length
    · rcases h1 with h1 | ⟨g, off, rfl, hg, hc⟩
      · rw [h1] at hlt; simp at hlt
      · have hcell := hc k hlt
        have HT : Hid (tagsIn (l.take (k + 1)) = (tagsIn (l.take k) && inB (ia l k) 0 65535)) := tagsIn_take l k hlt
        clear hc
        cases hi : inB (ia l k) 0 65535
        · have Hno : Hid (tagsIn l = false) := tagsIn_no hlt hi
          go_wp2_with (go_at_call 42; refine (s_In _ _ _ _).mono ?_; rintro e w' ⟨rfl, rfl⟩)
          go_ret
          exact ⟨ret_bool (by rw [HF.out, HTg.out, Hno.out]; simp), hb⟩
        · go_wp2_with (go_at_call 42; refine (s_In _ _ _ _).mono ?_; rintro e w' ⟨rfl, rfl⟩)
          go_round
          case rel => exact ⟨k + 1, by omega, by go_num, by show _ = _; rw [HT.out, hin.out, hi]; rfl⟩
          case measure => simp [intOf]; omega
    · have hT : l.take k = l := List.take_of_length_le (by omega)
      rw [hT] at hin
      clear hT
      cases e1 : macB d
      · go_wp2_with (go_at_call 43; refine (s_Mac _ _).mono ?_; rintro e w' ⟨rfl, rfl⟩)
        go_ret
        exact ⟨ret_bool (by rw [HF.out, e1]; simp), hb⟩
      · cases e2 : macB s
        · go_wp2_with (go_at_call 43; refine (s_Mac _ _).mono ?_; rintro e w' ⟨rfl, rfl⟩)
          go_ret
          exact ⟨ret_bool (by rw [HF.out, e2]; simp), hb⟩
        · by_cases h2 : l.length ≤ 2
          · have d2 : decide ((l.length : Int) ≤ 2) = true := by simp; omega
            cases e3 : inB t 1536 65535
            · go_wp2_with (first | (go_at_call 43; refine (s_Mac _ _).mono ?_; rintro e w' ⟨rfl, rfl⟩) | (go_at_call 42; refine (s_In _ _ _ _).mono ?_; rintro e w' ⟨rfl, rfl⟩))
              go_ret
              exact ⟨ret_bool (by rw [HF.out, HTy.out, e3]; simp), hb⟩
            · by_cases h3 : t = 33024
              · have d3 : (t != 33024) = false := by simp [h3]
                have H3 : Hid (t = 33024) := h3
                clear h3
                go_wp2_with (first | (go_at_call 43; refine (s_Mac _ _).mono ?_; rintro e w' ⟨rfl, rfl⟩) | (go_at_call 42; refine (s_In _ _ _ _).mono ?_; rintro e w' ⟨rfl, rfl⟩))
                go_ret
                exact ⟨ret_bool (by rw [HF.out, HTy.out, d3]; simp), hb⟩
              · have d3 : (t != 33024) = true := by simp [h3]
                clear h3
                go_wp2_with (first | (go_at_call 43; refine (s_Mac _ _).mono ?_; rintro e w' ⟨rfl, rfl⟩) | (go_at_call 42; refine (s_In _ _ _ _).mono ?_; rintro e w' ⟨rfl, rfl⟩))
                go_ret
                exact ⟨ret_bool (by rw [HF.out, HTy.out, HTg.out, e1, e2, e3, d3, hin.out]; simp [h2]; omega), hb⟩
          · have d2 : decide ((l.length : Int) ≤ 2) = false := by simp; omega
            go_wp2_with (go_at_call 43; refine (s_Mac _ _).mono ?_; rintro e w' ⟨rfl, rfl⟩)
            go_ret
            exact ⟨ret_bool (by rw [HF.out, HTg.out]; simp [h2]), hb⟩
end Go.Proofs.Ytlpapncgcgllfaa
