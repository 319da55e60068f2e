/-
  The program's reader of datagrams: ReadIp.
-/
import Derived.Test.YtgknkhhoelgnhaaDoorIpRd3
namespace Go.Proofs.YtgknkhhoelgnhaaDoor
open Go.RowKit Go.PlainAid
theorem ipCode_in (s : ByteArray) : 0 ≤ ipCode s ∧ ipCode s ≤ 5 := by
  unfold ipCode
  repeat' split
  all_goals omega
set_option maxRecDepth 100000 in
set_option maxHeartbeats 3200000 in
theorem i_ReadIp (A : Nat → Addr) (s : ByteArray) (w : World) (hs : s.size ≤ 1099511627776) (hE : Errs A w) :
    Calls Tryd.prog 22 #[.string s] w fun e w' => e = .returned (.tuple #[.agg (ipL (readIp s)), .int .i64 (ipCode s)]) ∧ Below w.heap.size w w' := by
  have CM : Hid (∀ u : World, Below w.heap.size w u → Calls Tryd.prog 58 #[.string s] u fun e w' => e = .returned (.tuple #[.agg (ipL (readIp s)), errV A (ipCode s).toNat]) ∧ Below u.heap.size u w') := fun u hb => i_parsedIp A s u hs (hE.below hb)
  have hci := ipCode_in s
  have CC : Hid (∀ u : World, Below w.heap.size w u → Calls Tryd.prog 59 #[errV A (ipCode s).toNat] u fun e w' => e = .returned (.int .i64 (ipCode s)) ∧ w' = u) := fun u hb => by
    have := i_ipCode A (ipCode s).toNat (by omega) u (hE.below hb)
    rw [Int.toNat_of_nonneg hci.1] at this
    exact this
  have hb0 : Below w.heap.size w (w.alloc (.cells #[.int .i64 0, .int .i64 0, .bool false, .bool false, .int .i64 0, .int .i64 0, .int .i64 0, .int .i64 0, .int .i64 0, .string ⟨#[]⟩, .string ⟨#[]⟩] 32)) := (Below.refl _ w).alloc (Nat.le_refl _) _
  have hR0 := Bx.new w #[.int .i64 0, .int .i64 0, .bool false, .bool false, .int .i64 0, .int .i64 0, .int .i64 0, .int .i64 0, .int .i64 0, .string ⟨#[]⟩, .string ⟨#[]⟩] 32
  have hF0 := Fx.new w #[.int .i64 0, .int .i64 0, .bool false, .bool false, .int .i64 0, .int .i64 0, .int .i64 0, .int .i64 0, .int .i64 0, .string ⟨#[]⟩, .string ⟨#[]⟩] 32
  clear hci hE
  generalize errV A (ipCode s).toNat = ev at *
  generalize ipCode s = cc at *
  generalize readIp s = rp at *
  obtain ⟨tos, id, df, mf, off, ttl, pro, src, dst, opts, data⟩ := rp
  simp only [ipL] at *
  go_enter Tryd.func22, Tryd.ntmps22
  go_wp2_with fail
  go_at_call 58
  refine (CM.out _ hb0).mono ?_
  rintro e w1 ⟨rfl, hb⟩
  have hB := hb0.trans (hb.mono hb0.size)
  replace hR0 := hR0.below hb
  replace hF0 := hF0.belowR hb
  clear hb CM hb0
  have hq := (Below.refl w1.heap.size w1).alloc (Nat.le_refl _) (.cells #[.int .i64 tos, .int .i64 id, .bool df, .bool mf, .int .i64 off, .int .i64 ttl, .int .i64 pro, .int .i64 src, .int .i64 dst, .string opts, .string data] 32)
  have hX := Bx.new w1 #[.int .i64 tos, .int .i64 id, .bool df, .bool mf, .int .i64 off, .int .i64 ttl, .int .i64 pro, .int .i64 src, .int .i64 dst, .string opts, .string data] 32
  have hw1 := hR0.1
  replace hR0 := hR0.below hq
  replace hF0 := hF0.belowR hq
  replace hB := hB.trans (hq.mono hB.size)
  have hn1 : ¬ (w.heap.size = w1.heap.size) := by omega
  have hn2 : ¬ (w1.heap.size = w.heap.size) := by omega
  clear hq
  go_wp2_with fail
  generalize hU : w1.alloc _ = u1 at *
  clear hU
  have x0 := hX.2 0 _ rfl; have x1 := hX.2 1 _ rfl; have x2 := hX.2 2 _ rfl; have x3 := hX.2 3 _ rfl; have x4 := hX.2 4 _ rfl; have x5 := hX.2 5 _ rfl; have x6 := hX.2 6 _ rfl; have x7 := hX.2 7 _ rfl; have x8 := hX.2 8 _ rfl; have x9 := hX.2 9 _ rfl; have x10 := hX.2 10 _ rfl
  have r0 := hR0.2 0 _ rfl; have r1 := hR0.2 1 _ rfl; have r2 := hR0.2 2 _ rfl; have r3 := hR0.2 3 _ rfl; have r4 := hR0.2 4 _ rfl; have r5 := hR0.2 5 _ rfl; have r6 := hR0.2 6 _ rfl; have r7 := hR0.2 7 _ rfl; have r8 := hR0.2 8 _ rfl; have r9 := hR0.2 9 _ rfl; have r10 := hR0.2 10 _ rfl
  have f0 := hF0.2
  have CC2 : Hid (Calls Tryd.prog 59 #[ev] u1.drew fun e w' => e = .returned (.int .i64 cc) ∧ w' = u1.drew) := CC.out _ hB.drew
  clear CC
  go_region_with (first | (go_at_call 59; refine CC2.out.mono ?_; rintro e w3 ⟨rfl, rfl⟩))
  all_goals
    go_wp2
    refine bodyPost_ret (v := .tuple #[.agg #[.int .i64 tos, .int .i64 id, .bool df, .bool mf, .int .i64 off, .int .i64 ttl, .int .i64 pro, .int .i64 src, .int .i64 dst, .string opts, .string data], .int .i64 cc]) ?_ rfl ⟨rfl, ?_⟩
    · simp [results, Tryd.results22, go_sem, r0, r1, r2, r3, r4, r5, r6, r7, r8, r9, r10]
    · go_grown
end Go.Proofs.YtgknkhhoelgnhaaDoor
