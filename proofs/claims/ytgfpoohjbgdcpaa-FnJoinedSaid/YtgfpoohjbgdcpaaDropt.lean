/-
  The draw of options that are copied or not.
-/
import Derived.Test.YtgfpoohjbgdcpaaRecsV
import Derived.Test.YtgfpoohjbgdcpaaLawBase
import Derived.Deep.RegionWith
namespace Go.Proofs.Ytgfpoohjbgdcpaa
open Go.RowKit Go.PlainAid
theorem ownB_far {w w' : World} {B : Nat} {v : Value} {l : List UInt8} (h : ownB w B v l) (hb : Below w.heap.size w w') : ownB w' B v l := ownV.far (k := 1) h hb
theorem str_app_size (a b : ByteArray) : (a ++ b).size = a.size + b.size := by simp
set_option maxRecDepth 100000 in
theorem upon_make {o : Oper} {a : Act} {K : Act → World → Prop} {Q : Exit → Act → World → Prop} {W : World} {n : Nat} (hn : n ≤ 1000)
    (h : ∀ w', ownB w' W.heap.size (.slice (some ⟨W.heap.size, 0, none⟩) n n) (List.replicate n 0) → Below W.heap.size W w' → K (a.put o.dst (.slice (some ⟨W.heap.size, 0, none⟩) n n)) w') :
    Oper.upon Try.prog o a K Q ((Sem.run Try.prog (Instr.makeSlice 33 (.int .i64 (n : Int)) (.int .i64 (n : Int))) W).andThen fun a w' => Result.ok (Next.value a) w') := by
  obtain ⟨i0, hi, hz0, hz1, hz2⟩ := info_parts Try.infoB
  obtain ⟨w', hrun, r1, r2⟩ := run_make_full (P := Try.prog) W W.heap.size 33 5 i0 (.int .u8 0) 1 Try.underlying33 hi hz0 hz1 .i64 .i64 n (by rw [hz2]; omega) (by unfold maxLen; omega) (Nat.le_refl _)
  rw [hrun]
  simp only [Result.andThen]
  rw [Oper.upon_value]
  refine h w' ?_ ((Below.refl _ W).grown r2 (Nat.le_refl _) (by simp))
  have e : (madeCells (Value.int .u8 0).cells (n * 1)).toList = bcells (List.replicate n 0) := by
    have := toList_madeCells_one (Value.int .u8 0) n
    simp [bcells, Value.cells] at this ⊢; exact this
  unfold ownB; rw [← e]; simpa using r1
set_option maxRecDepth 100000 in
set_option maxHeartbeats 6400000 in
theorem r_opts (b : Nat) (C : Option Addr) (len cap : Nat) (w : World) (h : RdI w b C len cap) :
    Calls Try.prog 78 #[.pointer (some ⟨b, 0, none⟩)] w fun e w' => ∃ t : ByteArray, e = .returned (.string t) ∧ t.size ≤ 24 ∧ RdI w' b C len cap ∧ Only b w w' := by
  have hlt := h.lt
  go_enter Try.func78, Try.ntmps78
  go_wp2_with fail
  refine (r_below b C len cap _ _ (by omega) h).mono ?_
  rintro e w1 ⟨x, rfl, hx0, hx1, hR1, hO1⟩
  obtain ⟨N, rfl⟩ := Int.eq_ofNat_of_zero_le hx0
  have hN : N ≤ 3 := by omega
  go_wp2
  go_loopw [3, 4] (fun v i wr => ∃ (k : Nat) (q : ByteArray), v = .string q ∧ i = .int .i64 (k : Int) ∧ k ≤ 3 ∧ q.size + 6 * k ≤ 18 ∧ RdI wr b C len cap ∧ Only b w wr) (fun _ i _ => (intOf i).toNat)
  case atStart => exact ⟨N, ⟨#[]⟩, rfl, rfl, hN, by show 0 + 6 * N ≤ 18; omega, hR1, hO1⟩
  case round =>
    clear hx0 hx1 hN hR1 hO1
    obtain ⟨k, q, rfl, rfl, hk, hq, hR, hO⟩ := hrel
    have hsz := hO.size
    by_cases hk0 : 0 < k
    · have hk1 : (0 : Int) < (k : Int) := by omega
      go_wp2_with fail
      refine (r_below b C len cap _ _ (by omega) (hR.alloc _)).mono ?_
      rintro e w2 ⟨y, rfl, hy0, hy1, hR2, hO2⟩
      have hQ2 := (hO.alloc _).trans hO2
      obtain ⟨Y, rfl⟩ := Int.eq_ofNat_of_zero_le hy0
      obtain ⟨tv, htv⟩ : ∃ tv : Int, (#[Value.int .i64 1, .int .i64 7, .int .i64 68, .int .i64 130, .int .i64 131, .int .i64 148] : Array Value)[Y]? = some (.int .i64 tv) := by
        have hY : Y = 0 ∨ Y = 1 ∨ Y = 2 ∨ Y = 3 ∨ Y = 4 ∨ Y = 5 := by omega
        rcases hY with rfl | rfl | rfl | rfl | rfl | rfl <;> exact ⟨_, rfl⟩
      have f1 : w2.cell? ⟨wr.heap.size, Y, none⟩ = some (.int .i64 tv) := (hO2.cell (g := wr.heap.size) (j := Y) (by simp) (by omega)).trans (alloc_at wr _ 2 Y _ htv)
      have hY6 : (Y : Int) < 6 := by omega
      clear hy0 hy1 hO2 htv
      by_cases ht1 : tv = 1
      · subst ht1
        have hbig : ¬ 9223372036854775807 < q.size + 1 := by omega
        go_wp2
        go_roundw
        case rel => exact ⟨k - 1, _, rfl, by first | go_num | (congr 1; omega), by omega, by rw [str_app_size]; show q.size + 1 + 6 * (k - 1) ≤ 18; omega, hR2, hQ2⟩
        case measure => simp [intOf]; omega
      · have ht1b : (tv == 1) = false := by simp [ht1]
        clear ht1
        go_wp2_with fail
        refine (r_below b C len cap _ _ (by omega) hR2).mono ?_
        rintro e w3 ⟨z, rfl, hz0, hz1, hR3, hO3⟩
        obtain ⟨Z, rfl⟩ := Int.eq_ofNat_of_zero_le hz0
        have hZ : Z ≤ 4 := by omega
        have hQ3 := hQ2.trans hO3
        have hz2 : IntKind.i64.wrap (2 + (Z : Int)) = 2 + (Z : Int) := wraps_i64 _ (by omega) (by omega)
        have hz3 : IntKind.i64.wrap (2 + (Z : Int) - 2) = (Z : Int) := (wraps_i64 _ (by omega) (by omega)).trans (by omega)
        have HB : Below w3.heap.size w3 w3.drew := (Below.refl _ w3).drew
        clear hz0 hz1 hO3 hR2 hQ2 f1
        have hbA : ¬ 9223372036854775807 < q.size + 1 := by omega
        have hbB : ¬ 9223372036854775807 < q.size + 1 + 1 := by omega
        have hbC : ¬ 9223372036854775807 < q.size + 1 + 1 + Z := by omega
        have hlR : (List.replicate Z (0 : UInt8)).length = Z := List.length_replicate
        have CB : Hid (∀ (n : Int) (u : World), Calls Try.prog 82 #[.int .i64 n, .int .i64 1] u fun e w' => ∃ s1 : ByteArray, s1.size = 1 ∧ e = .returned (.string s1) ∧ Below u.heap.size u w') := fun n u => (be_any n 1 u (by decide) (by decide)).mono fun e w' ⟨h1, h2⟩ => ⟨_, by rw [str_size, be_length]; rfl, h1, h2⟩
        go_wp2_with fail
        go_region_with (first
          | (go_at_call 82; refine (CB.out _ _).mono ?_; rintro e w4 ⟨s1, h1, rfl, hb⟩; replace HB := HB.trans (hb.mono HB.size); (try (replace hown := ownB_far hown hb; have hst := run_string_own hown)); clear hb)
          | (go_simp; refine upon_make (n := Z) (by omega) ?_; intro w5 hown hb; (try (change ownB w5 w3.heap.size (.slice (some ⟨w3.heap.size, 0, none⟩) Z Z) (List.replicate Z 0) at hown)); replace HB := HB.trans (hb.mono HB.size); generalize hrl : List.replicate Z (0 : UInt8) = rl at hown hlR; have hst := run_string_own hown; have hss : ByteArray.size ⟨rl.toArray⟩ = rl.length := str_size rl; clear hb))
        all_goals
          go_wp2
          go_roundw
          case rel => exact ⟨k - 1, _, rfl, by first | go_num | (congr 1; omega), by omega, by simp [*]; omega, hR3.far HB, hQ3.far HB⟩
          case measure => simp [intOf]; omega
    · have e : k = 0 := by omega
      subst e
      have hq24 : q.size ≤ 20 := by omega
      clear hq hk hlt
      go_wp2
      go_loopw [3] (fun v wq => ∃ q : ByteArray, v = .string q ∧ q.size ≤ 24 ∧ wq = wr) (fun v _ => (4 - strLen v % 4) % 4)
      case atStart => exact ⟨q, rfl, by omega, by first | rfl | trivial⟩
      case round =>
        clear hq24
        obtain ⟨q, rfl, hq, rfl⟩ := hrel
        have hm : Int.tmod (q.size : Int) 4 = ((q.size % 4 : Nat) : Int) := by rw [Int.tmod_eq_emod_of_nonneg (by omega)]; omega
        by_cases h4 : q.size % 4 = 0
        · have z4 : (((q.size % 4 : Nat) : Int) != 0) = false := by rw [h4]; rfl
          clear h4
          go_wp2
          go_ret
          exact ⟨q, rfl, hq, hR, hO⟩
        · have z4 : (((q.size % 4 : Nat) : Int) != 0) = true := by simp; omega
          have hbig : ¬ 9223372036854775807 < q.size + 1 := by omega
          go_wp2
          go_roundw
          case rel => exact ⟨_, rfl, by rw [str_app_size]; show q.size + 1 ≤ 24; omega, by first | rfl | trivial⟩
          case measure => simp only [strLen]; rw [str_app_size]; show (4 - (q.size + 1) % 4) % 4 < _; omega
end Go.Proofs.Ytgfpoohjbgdcpaa
