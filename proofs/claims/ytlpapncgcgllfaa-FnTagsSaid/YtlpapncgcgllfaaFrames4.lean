/-
  Contracts of FrameBytes, of the program and of the model, whole.
-/
import Derived.Test.YtlpapncgcgllfaaFrames3
namespace Go.Proofs.Ytlpapncgcgllfaa
open Go.RowKit Go.PlainAid
def frameBytes (d s : Int) (l : List Int) (t : Int) (x : ByteArray) : List UInt8 := if frameB d s l t x then fbytes d s l t x else []
theorem frameBytes_yes {d s : Int} {l : List Int} {t : Int} {x : ByteArray} (h : frameB d s l t x = true) : frameBytes d s l t x = fbytes d s l t x := by unfold frameBytes; rw [if_pos h]
theorem frameBytes_no {d s : Int} {l : List Int} {t : Int} {x : ByteArray} (h : frameB d s l t x = false) : frameBytes d s l t x = [] := by unfold frameBytes; rw [h]; rfl
theorem frameB_iff {d s : Int} {l : List Int} {t : Int} {x : ByteArray} (h : frameB d s l t x = true) : macB d = true ∧ macB s = true ∧ l.length ≤ 2 ∧ tagsIn l = true ∧ typeB t = true ∧ x.size ≤ 1500 := by
  unfold frameB tagsB at h; simp at h; exact ⟨h.1.1.1.1, h.1.1.1.2, h.1.1.2.1, h.1.1.2.2, h.1.2, h.2⟩

set_option maxRecDepth 100000 in
set_option maxHeartbeats 800000 in
theorem s_FrameBytes (d s : Int) (T : Option Addr) (c : Nat) (l : List Int) (t : Int) (x : ByteArray) (w : World) (h : IntsAt w T l) (hl : l.length ≤ 1099511627776) (hx : x.size ≤ 1099511627776) :
    Calls Try.prog 16 #[.agg #[.int .i64 d, .int .i64 s, .slice T l.length c, .int .i64 t, .string x]] w fun e w' => e = .returned (.string (str (frameBytes d s l t x))) ∧ Below w.heap.size w w' := by
  have hA := Box.new w #[.int .i64 d, .int .i64 s, .slice T l.length c, .int .i64 t, .string x] 24
  have hI := h.alloc (.cells #[.int .i64 d, .int .i64 s, .slice T l.length c, .int .i64 t, .string x] 24)
  have hB : Below w.heap.size w (w.alloc (.cells #[.int .i64 d, .int .i64 s, .slice T l.length c, .int .i64 t, .string x] 24)) := (Below.refl _ w).alloc (Nat.le_refl _) _
  clear h
  go_enter Try.func16, Try.ntmps16
  go_wp2_with fail
  refine (s_FrameOk d s T c l t x _ hI hl hx).mono ?_
  rintro e w1 ⟨rfl, hb1⟩
  replace hB := hB.trans (hb1.mono hB.size)
  replace hA := hA.below hb1
  replace hI := hI.below hb1
  clear hb1
  cases hf : frameB d s l t x
  · have HE : Hid (frameBytes d s l t x = []) := frameBytes_no hf
    go_wp2
    go_ret
    exact ⟨by rw [HE.out]; rfl, hB⟩
  · have HE : Hid (frameBytes d s l t x = fbytes d s l t x) := frameBytes_yes hf
    have a0 := hA.2 0 _ rfl
    have a1 := hA.2 1 _ rfl
    have a2 := hA.2 2 _ rfl
    have a3 := hA.2 3 _ rfl
    have a4 := hA.2 4 _ rfl
    go_wp2_with fail
    refine (s_l2Bytes d s T c l t x _ hI hl hx).mono ?_
    rintro e w2 ⟨rfl, hb2⟩
    go_wp2
    go_ret
    exact ⟨by rw [HE.out]; rfl, hB.trans (hb2.mono hB.size)⟩

theorem C_bytes6 {n : Int} (h : macB n = true) (u : World) : Calls Try.prog 34 #[.int .i64 n, .int .i64 6] u fun e w' => e = .returned (.string (str (be 6 n))) ∧ Below u.heap.size u w' := by
  have hb := of_inB h
  have r := i_BytesOf n 6 u (by omega)
  rw [okB_of (by omega) (by omega) hb.1 (by simp; omega)] at r
  exact r
theorem C_bytes2 {n : Int} (h0 : 0 ≤ n) (h1 : n ≤ 65535) (u : World) : Calls Try.prog 34 #[.int .i64 n, .int .i64 2] u fun e w' => e = .returned (.string (str (be 2 n))) ∧ Below u.heap.size u w' := by
  have r := i_BytesOf n 2 u (by omega)
  rw [bytesOf_2 h0 h1] at r
  exact r
theorem tag_in {l : List Int} (h : tagsIn l = true) (k : Nat) (hk : k < l.length) : 0 ≤ ia l k ∧ ia l k ≤ 65535 := by
  unfold tagsIn at h; rw [List.all_eq_true] at h
  rw [ia_eq l k hk]; exact of_inB (h _ (List.getElem_mem hk))

set_option maxRecDepth 100000 in
set_option maxHeartbeats 1600000 in
theorem i_FrameBytes (d s : Int) (T : Option Addr) (c : Nat) (l : List Int) (t : Int) (x : ByteArray) (w : World) (h : IntsAt w T l) (hl : l.length ≤ 1099511627776) (hx : x.size ≤ 1099511627776) :
    Calls Try.prog 14 #[.agg #[.int .i64 d, .int .i64 s, .slice T l.length c, .int .i64 t, .string x]] w fun e w' => e = .returned (.string (str (frameBytes d s l t x))) ∧ Below w.heap.size w w' := by
  have hA := Box.new w #[.int .i64 d, .int .i64 s, .slice T l.length c, .int .i64 t, .string x] 24
  have hI := h.alloc (.cells #[.int .i64 d, .int .i64 s, .slice T l.length c, .int .i64 t, .string x] 24)
  have hB : Below w.heap.size w (w.alloc (.cells #[.int .i64 d, .int .i64 s, .slice T l.length c, .int .i64 t, .string x] 24)) := (Below.refl _ w).alloc (Nat.le_refl _) _
  clear h
  go_enter Try.func14, Try.ntmps14
  go_wp2_with fail
  refine (i_FrameOk d s T c l t x _ hI hl hx).mono ?_
  rintro e w1 ⟨rfl, hb1⟩
  replace hB := hB.trans (hb1.mono hB.size)
  replace hA := hA.below hb1
  replace hI := hI.below hb1
  clear hb1
  cases hf : frameB d s l t x
  · have HE : Hid (frameBytes d s l t x = []) := frameBytes_no hf
    go_wp2
    go_ret
    exact ⟨by rw [HE.out]; rfl, hB⟩
  · have HE : Hid (frameBytes d s l t x = fbytes d s l t x) := frameBytes_yes hf
    obtain ⟨f1, f2, f3, f4, f5, f6⟩ := frameB_iff hf
    have ht : 0 ≤ t ∧ t ≤ 65535 := by unfold typeB at f5; simp at f5; have := of_inB f5.1; omega
    have C0 : Hid (∀ u : World, Calls Try.prog 34 #[.int .i64 d, .int .i64 6] u fun e w' => e = .returned (.string (str (be 6 d))) ∧ Below u.heap.size u w') := C_bytes6 f1
    have C1 : Hid (∀ u : World, Calls Try.prog 34 #[.int .i64 s, .int .i64 6] u fun e w' => e = .returned (.string (str (be 6 s))) ∧ Below u.heap.size u w') := C_bytes6 f2
    have C3 : Hid (∀ u : World, Calls Try.prog 34 #[.int .i64 t, .int .i64 2] u fun e w' => e = .returned (.string (str (be 2 t))) ∧ Below u.heap.size u w') := C_bytes2 ht.1 ht.2
    have b6 : ∀ n, (be 6 n).length = 6 := fun n => be_length 6 n
    have b2 : ∀ n, (be 2 n).length = 2 := fun n => be_length 2 n
    have f4' : Hid (tagsIn l = true) := f4
    clear f1 f2 f4 f5 f6 ht hf
    have hne := BW.some w1
    have a0 := fun u : BW w1 => (BW.box hA u).2 0 _ rfl
    have a1 := fun u : BW w1 => (BW.box hA u).2 1 _ rfl
    go_wp2_with fail
    refine wp_region_below (by kernel_rfl) (by kernel_rfl) ?_
    repeat (go_big_quiet_step (fail))
    go_big_quiet_step (exact Calls.into (C0.out _))
    repeat (go_big_quiet_step (fail))
    go_big_quiet_step (exact Calls.into (C1.out _))
    repeat (go_big_quiet_step (fail))
    refine wpQuiet_nil ?_
    intro _ hw'
    obtain ⟨u, hw''⟩ := hw'
    subst hw''
    clear a0 a1 hne
    replace hB := hB.trans (u.le.mono hB.size)
    replace hA := BW.box hA u
    replace hI := BW.ints hI u
    have a2 := hA.2 2 _ rfl
    go_wp2_with fail
    go_loopw [3, 19] (fun v i wr => ∃ k : Nat, k ≤ l.length ∧ i = .int .i64 (k : Int) ∧ v = .string (str (fpre d s (l.take k))) ∧ Box wr w.heap.size (frv d s T l.length c t x) ∧ IntsAt wr T l ∧ Below w.heap.size w wr) (fun _ i _ => ((l.length : Int) - intOf i).toNat)
    case atStart => exact ⟨0, by omega, rfl, by rw [str_app, List.take_zero, fpre_nil], hA, hI, hB⟩
    case round =>
      clear hA hI hB a2
      obtain ⟨k, hk, rfl, rfl, hA, hI, hB⟩ := hrel
      have hpl : (fpre d s (l.take k)).length ≤ 20 := by rw [fpre_length, List.length_take]; omega
      by_cases hlt : k < l.length
      · have hI2 := hI
        rcases hI with hI | ⟨g, off, rfl, hg, hc⟩
        · rw [hI] at hlt; simp at hlt
        · have HS : Hid (str (fpre d s (l.take k)) ++ (str (be 2 33024) ++ str (be 2 (ia l k))) = str (fpre d s (l.take (k + 1)))) := by
            show _ = _
            rw [fpre_step d s l k hlt, str_app, str_app]
          have hcell := hc k hlt
          have htg := tag_in f4'.out k hlt
          clear hc
          go_wp2_with fail
          refine (C_bytes2 (n := 33024) (by omega) (by omega) _).mono ?_
          rintro e w2 ⟨rfl, hb2⟩
          go_wp2_with fail
          refine (C_bytes2 htg.1 htg.2 _).mono ?_
          rintro e w3 ⟨rfl, hb3⟩
          have hb23 := hb2.trans (hb3.mono hb2.size)
          clear hb2 hb3
          go_wp2
          go_roundw
          case rel => exact ⟨k + 1, by omega, by go_num, by rw [HS.out], hA.below hb23, hI2.below hb23, hB.trans (hb23.mono hB.size)⟩
          case measure => simp [intOf]; omega
      · have hT : l.take k = l := List.take_of_length_le (by omega)
        rw [hT] at hpl ⊢
        have HS : Hid (str (fpre d s l) ++ str (be 2 t) ++ x = str (fbytes d s l t x)) := by
          show _ = _
          unfold fbytes
          rw [← str_app, ← str_app, str_bl]
        have a3 := fun u : BW wr => (BW.box hA u).2 3 _ rfl
        have a4 := fun u : BW wr => (BW.box hA u).2 4 _ rfl
        have hne := BW.some wr
        clear hT
        go_wp2_with fail
        refine wp_region_below (by kernel_rfl) (by kernel_rfl) ?_
        repeat (go_big_quiet_step (fail))
        go_big_quiet_step (exact Calls.into (C3.out _))
        repeat (go_big_quiet_step (fail))
        refine wpQuiet_nil ?_
        intro _ hw'
        obtain ⟨u, hw''⟩ := hw'
        subst hw''
        rw [HS.out]
        clear a3 a4 hne
        go_wp2
        go_ret
        exact ⟨by rw [HE.out]; rfl, hB.trans (u.le.mono hB.size)⟩
end Go.Proofs.Ytlpapncgcgllfaa
