/-
  Contracts of FrameBytes, of the program and of the model.
-/
import Derived.Test.YtlpapncgcgllfaaFrames2
namespace Go.Proofs.Ytlpapncgcgllfaa
open Go.RowKit Go.PlainAid
/-- block b holds these values -/
def Box (W : World) (b : Nat) (vs : List Value) : Prop := b < W.heap.size ∧ ∀ i v, vs[i]? = some v → W.cell? ⟨b, i, none⟩ = some v
theorem Box.below {W W' : World} {b : Nat} {vs : List Value} (h : Box W b vs) (hb : Below W.heap.size W W') : Box W' b vs :=
  ⟨Nat.lt_of_lt_of_le h.1 hb.size, fun i v hv => (hb.cell (p := ⟨b, i, none⟩) h.1).trans (h.2 i v hv)⟩
theorem Box.drew {W : World} {b : Nat} {vs : List Value} (h : Box W b vs) : Box W.drew b vs := h
theorem Box.new (W : World) (vs : Array Value) (t : TypeId) : Box (W.alloc (.cells vs t)) W.heap.size vs.toList :=
  ⟨by simp, fun i v hv => by rw [World.cell?_alloc_mark]; simpa using hv⟩
/-- a frame as a value -/
abbrev frv (d s : Int) (T : Option Addr) (n c : Nat) (t : Int) (x : ByteArray) : List Value := [.int .i64 d, .int .i64 s, .slice T n c, .int .i64 t, .string x]

theorem BW.box {W : World} {b : Nat} {vs : List Value} (h : Box W b vs) (u : BW W) : Box u.u b vs := h.below u.le
theorem BW.ints {W : World} {T : Option Addr} {l : List Int} (h : IntsAt W T l) (u : BW W) : IntsAt u.u T l := h.below u.le

/-- tags in bytes -/
def tagBytes (l : List Int) : List UInt8 := l.flatMap fun g => be 2 33024 ++ be 2 g
/-- a frame in bytes, up to its tags -/
def fpre (d s : Int) (l : List Int) : List UInt8 := be 6 d ++ be 6 s ++ tagBytes l
def fbytes (d s : Int) (l : List Int) (t : Int) (x : ByteArray) : List UInt8 := fpre d s l ++ be 2 t ++ bl x
theorem tagBytes_length (l : List Int) : (tagBytes l).length = 4 * l.length := by
  induction l with
  | nil => rfl
  | cons a l ih => simp only [tagBytes, List.flatMap_cons, List.length_append, be_length, List.length_cons] at *; omega
theorem fpre_length (d s : Int) (l : List Int) : (fpre d s l).length = 12 + 4 * l.length := by
  unfold fpre; rw [List.length_append, List.length_append, be_length, be_length, tagBytes_length]
theorem fpre_nil (d s : Int) : fpre d s [] = be 6 d ++ be 6 s := by simp [fpre, tagBytes]
theorem fpre_step (d s : Int) (l : List Int) (k : Nat) (h : k < l.length) : fpre d s (l.take (k + 1)) = fpre d s (l.take k) ++ (be 2 33024 ++ be 2 (ia l k)) := by
  rw [List.take_succ_eq_append_getElem h, ia_eq l k h]
  simp only [fpre, tagBytes, List.flatMap_append, List.flatMap_cons, List.flatMap_nil, List.append_nil, List.append_assoc]

set_option maxRecDepth 100000 in
set_option maxHeartbeats 1600000 in
theorem s_l2Bytes (d s : Int) (T : Option Addr) (c : Nat) (l : List Int) (t : Int) (x : ByteArray) (w : World) (h : IntsAt w T l) (hl : l.length ≤ 1099511627776) (hx : x.size ≤ 1099511627776) :
    Calls Try.prog 36 #[.agg #[.int .i64 d, .int .i64 s, .slice T l.length c, .int .i64 t, .string x]] w fun e w' => e = .returned (.string (str (fbytes d s l t x))) ∧ Below w.heap.size w w' := by
  have C6 : Hid (∀ (n : Int) (u : World), Calls Try.prog 40 #[.int .i64 n, .int .i64 6] u fun e w' => e = .returned (.string (str (be 6 n))) ∧ Below u.heap.size u w') := fun n u => be_any n 6 u (by decide) (by decide)
  have C2 : Hid (∀ (n : Int) (u : World), Calls Try.prog 40 #[.int .i64 n, .int .i64 2] u fun e w' => e = .returned (.string (str (be 2 n))) ∧ Below u.heap.size u w') := fun n u => be_any n 2 u (by decide) (by decide)
  have hA := Box.new w #[.int .i64 d, .int .i64 s, .slice T l.length c, .int .i64 t, .string x] 24
  have hI := h.alloc (.cells #[.int .i64 d, .int .i64 s, .slice T l.length c, .int .i64 t, .string x] 24)
  have hB : Below w.heap.size w (w.alloc (.cells #[.int .i64 d, .int .i64 s, .slice T l.length c, .int .i64 t, .string x] 24)) := (Below.refl _ w).alloc (Nat.le_refl _) _
  clear h
  have b6 : ∀ n, (be 6 n).length = 6 := fun n => be_length 6 n
  have b2 : ∀ n, (be 2 n).length = 2 := fun n => be_length 2 n
  go_enter Try.func36, Try.ntmps36
  go_wp2_with fail
  generalize hW : w.alloc (.cells #[.int .i64 d, .int .i64 s, .slice T l.length c, .int .i64 t, .string x] 24) = W at *
  clear hW
  have hne := BW.some W
  have a0 := fun u : BW W => (BW.box hA u).2 0 _ rfl
  have a1 := fun u : BW W => (BW.box hA u).2 1 _ rfl
  refine wp_region_below (by kernel_rfl) (by kernel_rfl) ?_
  repeat (go_big_quiet_step ((go_at_call 40; exact Calls.into (C6.out _ _))))
  refine wpQuiet_nil ?_
  intro _ hw'
  obtain ⟨u, hw''⟩ := hw'
  subst hw''
  clear a0 a1 hne
  replace hB := hB.trans (u.le.mono hB.size)
  replace hA := BW.box hA u
  replace hI := BW.ints hI u
  go_wp2_with fail
  go_loopw [3, 4] (fun v i wr => ∃ k : Nat, k ≤ l.length ∧ i = .int .i64 (k : Int) ∧ v = .string (str (fpre d s (l.take k))) ∧ Box wr w.heap.size (frv d s T l.length c t x) ∧ IntsAt wr T l ∧ Below w.heap.size w wr) (fun _ i _ => ((l.length : Int) - intOf i).toNat)
  case atStart => exact ⟨0, by omega, rfl, by rw [str_app, List.take_zero, fpre_nil], hA, hI, hB⟩
  case round =>
    clear hA hI hB
    obtain ⟨k, hk, rfl, rfl, hA, hI, hB⟩ := hrel
    have hpl : (fpre d s (l.take k)).length ≤ 12 + 4 * l.length := by rw [fpre_length, List.length_take]; omega
    have hne := BW.some wr
    by_cases hlt : k < l.length
    · have hI2 := hI
      rcases hI with hI | ⟨g, off, rfl, hg, hc⟩
      · rw [hI] at hlt; simp at hlt
      · have HS : Hid (str (fpre d s (l.take k)) ++ str (be 2 33024) ++ str (be 2 (ia l k)) = str (fpre d s (l.take (k + 1)))) := by
          show _ = _
          rw [fpre_step d s l k hlt, str_app, str_app, List.append_assoc]
        have a2' := hA.2 2 _ rfl
        have a2 := fun u : BW wr => (BW.box hA u).2 2 _ rfl
        have hcell := fun u : BW wr => (u.le.cell (p := ⟨g, off + k, none⟩) hg).trans (hc k hlt)
        have hk1 : (k : Int) < (l.length : Int) := by omega
        clear hc
        go_wp2_with fail
        refine wp_region_below (by kernel_rfl) (by kernel_rfl) ?_
        repeat (go_big_quiet_step ((go_at_call 40; exact Calls.into (C2.out _ _))))
        refine wpQuiet_nil ?_
        intro _ hw'
        obtain ⟨u, hw''⟩ := hw'
        subst hw''
        rw [HS.out]
        clear a2 hcell hne
        go_wp2
        go_roundw
        case rel => exact ⟨k + 1, by omega, by go_num, rfl, BW.box hA u, BW.ints hI2 u, hB.trans (u.le.mono hB.size)⟩
        case measure => simp [intOf]; omega
    · have hT : l.take k = l := List.take_of_length_le (by omega)
      rw [hT] at hpl ⊢
      have HS : Hid (str (fpre d s l) ++ str (be 2 t) ++ x = str (fbytes d s l t x)) := by
        show _ = _
        unfold fbytes
        rw [← str_app, ← str_app, str_bl]
      have a2' := hA.2 2 _ rfl
      have a3 := fun u : BW wr => (BW.box hA u).2 3 _ rfl
      have a4 := fun u : BW wr => (BW.box hA u).2 4 _ rfl
      clear hT
      go_wp2_with fail
      refine wp_region_below (by kernel_rfl) (by kernel_rfl) ?_
      repeat (go_big_quiet_step ((go_at_call 40; exact Calls.into (C2.out _ _))))
      refine wpQuiet_nil ?_
      intro _ hw'
      obtain ⟨u, hw''⟩ := hw'
      subst hw''
      rw [HS.out]
      clear a3 a4 hne
      go_wp2
      go_ret
      exact ⟨rfl, hB.trans (u.le.mono hB.size)⟩
end Go.Proofs.Ytlpapncgcgllfaa
