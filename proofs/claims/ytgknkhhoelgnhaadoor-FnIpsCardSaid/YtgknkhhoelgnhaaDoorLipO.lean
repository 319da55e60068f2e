/-
  The walk of the law FnHopped.
-/
import Derived.Test.YtgknkhhoelgnhaaDoorDrd
import Derived.Test.YtgknkhhoelgnhaaDoorIph3
import Derived.Laws.StructEq
namespace Go.Proofs.YtgknkhhoelgnhaaDoor
open Go.RowKit Go.PlainAid
theorem Tryd.ipGuard : Tryd.prog.eqGuardType Tryd.prog.depth 32 = false := by kernel_rfl
theorem ipNeq (p : IpV) (w : World) : (binOp .neq 32 (.agg (ipL p)) (.agg (ipL p))).run Tryd.prog w = .ok (.bool false) w := by
  obtain ⟨tos, id, df, mf, off, ttl, pro, src, dst, opts, data⟩ := p
  simp only [ipL]
  rw [run_neq_struct, run_equalIn_agg w 9999 _ _ _ (by kernel_rfl) (by kernel_rfl)]
  simp only [Program.fieldsOf, Tryd.underlying32]
  simp only [Op.eqFields]
  simp [go_sem, part, run_equalIn_int _ _ _ _ _ _ _ Tryd.underlying2, run_equalIn_bool _ _ _ _ _ Tryd.underlying4, run_equalIn_string _ _ _ _ _ Tryd.underlying9]
theorem ipEql (p : IpV) (w : World) : (binOp .eql 32 (.agg (ipL p)) (.agg (ipL p))).run Tryd.prog w = .ok (.bool true) w := by
  obtain ⟨tos, id, df, mf, off, ttl, pro, src, dst, opts, data⟩ := p
  simp only [ipL]
  rw [run_eql_struct, run_equalIn_agg w 9999 _ _ _ (by kernel_rfl) (by kernel_rfl)]
  simp only [Program.fieldsOf, Tryd.underlying32]
  simp only [Op.eqFields]
  simp [go_sem, part, run_equalIn_int _ _ _ _ _ _ _ Tryd.underlying2, run_equalIn_bool _ _ _ _ _ Tryd.underlying4, run_equalIn_string _ _ _ _ _ Tryd.underlying9]
theorem hopT_length {s : ByteArray} (h : ipCode s = 0) (ht : 1 < bt s 8) : (hopT s).length = s.size := by
  obtain ⟨_, hT, _, _⟩ := hop_plain h ht
  obtain ⟨hs, _, _, _⟩ := read_ipT h
  have : (bl s).length = _ := congrArg List.length hs
  rw [bl_length, ipT_length] at this
  rw [hT, ipT_length, this]; rfl
set_option maxRecDepth 100000 in
set_option maxHeartbeats 6400000 in
theorem walk_FnHopped (A : Nat → Addr) (C : Option Addr) (len cap : Nat) (zs : List Int) (w : World) (w0 : IsRow .u8 w C len cap zs) (hE : Errs A w) :
    Calls Tryd.prog 8 #[.slice C len cap] w fun e w' => e = .returned (.bool true) ∧ Below w.heap.size w w' := by
  have hl := row_len w0
  by_cases hz : 1048576 < len
  · go_enter Tryd.func8, Tryd.ntmps8
    go_wp2
    go_ret
    exact ⟨rfl, Below.refl _ _⟩
  · have hC := code_of_row w0 (by omega)
    clear w0
    have CR0 : Hid (∀ (s : ByteArray) (u : World), Below w.heap.size w u → s.size ≤ 1099511627776 → Calls Tryd.prog 22 #[.string s] u fun e w' => e = .returned (.tuple #[.agg (ipL (readIp s)), .int .i64 (ipCode s)]) ∧ Below u.heap.size u w') := fun s u hb hs => i_ReadIp A s u hs (hE.below hb)
    have CH0 : Hid (∀ (s : ByteArray) (u : World), Below w.heap.size w u → s.size ≤ 1099511627776 → Calls Tryd.prog 17 #[.string s] u fun e w' => e = .returned (hopV s) ∧ Below u.heap.size u w') := fun s u hb hs => i_Hopped A s u hs (hE.below hb)
    clear hE
    go_enter Tryd.func8, Tryd.ntmps8
    go_wp2_with fail
    refine (big_no _ _ _ _ (by omega)).mono ?_
    rintro e w' ⟨rfl, hw'⟩
    rw [hw']
    clear hw' w'
    go_wp2_with fail
    refine (d_Hopped _ C len cap _ hC).mono ?_
    rintro e w1 ⟨s, rfl, hsz, hB⟩
    have CH : Hid (∀ u : World, Below w.heap.size w u → Calls Tryd.prog 17 #[.string s] u fun e w' => e = .returned (hopV s) ∧ Below u.heap.size u w') := fun u hb => CH0.out s u hb (by omega)
    have CS : Hid (∀ u : World, Calls Tryd.prog 16 #[.string s] u fun e w' => e = .returned (hopV s) ∧ Below u.heap.size u w') := fun u => s_Hopped s u (by omega)
    by_cases hok : ipCode s = 0 ∧ 1 < bt s 8
    · obtain ⟨h0, h1⟩ := hok
      have hV : hopV s = .tuple #[.string (str (hopT s)), .bool true] := by unfold hopV hopOk; simp [h0, h1]
      rw [hV] at CH CS
      obtain ⟨hc, hr⟩ := hop_read h0 h1
      have hln := hopT_length h0 h1
      have hbd := (hop_plain h0 h1).1.ttl
      have hb1 : (hopP s).ttl = bt s 8 - 1 := rfl
      rw [hb1] at hbd
      have hR : readIp s = ipV s := by unfold readIp; rw [if_pos h0]
      obtain ⟨q, hq⟩ : ∃ q, q = ipV s := ⟨_, rfl⟩
      have hqt : q.ttl = bt s 8 := by rw [hq]; rfl
      have CR1 : Hid (∀ u : World, Below w.heap.size w u → Calls Tryd.prog 22 #[.string s] u fun e w' => e = .returned (.tuple #[.agg (ipL q), .int .i64 0]) ∧ Below u.heap.size u w') := fun u hb => by
        have := CR0.out s u hb (by omega)
        rw [h0, hR, ← hq] at this; exact this
      have CR2 : Hid (∀ u : World, Below w.heap.size w u → Calls Tryd.prog 22 #[.string (str (hopT s))] u fun e w' => e = .returned (.tuple #[.agg (ipL { q with ttl := q.ttl - 1 }), .int .i64 0]) ∧ Below u.heap.size u w') := fun u hb => by
        have := CR0.out (str (hopT s)) u hb (by rw [str_size, hln]; omega)
        have e : ipL (hopP s) = ipL { q with ttl := q.ttl - 1 } := by rw [hqt, hq]; rfl
        rw [hc, hr, e] at this; exact this
      rw [← hqt] at hbd
      have HE : Hid (∀ v : World, (binOp .eql 32 (.agg (ipL q)) (.agg (ipL q))).run Tryd.prog v = .ok (.bool true) v) := fun v => ipEql q v
      clear h0 h1 hV hc hr hb1 hR hq hqt CR0 CH0
      generalize hopT s = T at *
      have hTs := str_size T
      have hln2 : ((T.length : Int) == (s.size : Int)) = true := by simp; omega
      have hln3 : (((str T).size : Int) == (s.size : Int)) = true := by rw [hTs]; exact hln2
      clear hln
      obtain ⟨tos, id, df, mf, off, ttl, pro, src, dst, opts, data⟩ := q
      simp only [ipL] at *
      have hw1 : IntKind.i64.wrap (ttl - 1) = ttl - 1 := by rw [IntKind.wrap_i64]; omega
      go_wp2_with fail
      refine (CH.out _ hB).mono ?_
      rintro e w2 ⟨rfl, hX⟩
      replace hB := hB.trans (hX.mono hB.size)
      clear hX CH
      go_wp2_with fail
      refine (CS.out _).mono ?_
      rintro e w3 ⟨rfl, hX⟩
      replace hB := hB.trans (hX.mono hB.size)
      clear hX CS
      go_wp2_with fail
      refine (CR1.out _ hB).mono ?_
      rintro e w4 ⟨rfl, hX⟩
      replace hB := hB.trans (hX.mono hB.size)
      clear hX CR1
      have hP : OI (w4.heap.size + 1000) 0 (w4.alloc (.cells #[.int .i64 tos, .int .i64 id, .bool df, .bool mf, .int .i64 off, .int .i64 ttl, .int .i64 pro, .int .i64 src, .int .i64 dst, .string opts, .string data] 32)) w4.heap.size [.int .i64 tos, .int .i64 id, .bool df, .bool mf, .int .i64 off, .int .i64 ttl, .int .i64 pro, .int .i64 src, .int .i64 dst, .string opts, .string data] := ⟨Bx.new w4 _ _, Fx.new w4 _ _, by omega, Nat.zero_le _⟩
      have hg4 := hB.size
      replace hB := hB.alloc hB.size (.cells #[.int .i64 tos, .int .i64 id, .bool df, .bool mf, .int .i64 off, .int .i64 ttl, .int .i64 pro, .int .i64 src, .int .i64 dst, .string opts, .string data] 32)
      go_wp2_with fail
      generalize w4.alloc (.cells #[.int .i64 tos, .int .i64 id, .bool df, .bool mf, .int .i64 off, .int .i64 ttl, .int .i64 pro, .int .i64 src, .int .i64 dst, .string opts, .string data] 32) = u4 at *
      generalize w4.heap.size = g4 at *
      refine (CR2.out _ hB).mono ?_
      rintro e w5 ⟨rfl, hX⟩
      replace hP := hP.below hX
      replace hB := hB.trans (hX.mono hB.size)
      clear hX CR2
      have hl5 := hP.bx.1
      have hQ : OI (w5.heap.size + 1000) 0 (w5.alloc (.cells #[.int .i64 tos, .int .i64 id, .bool df, .bool mf, .int .i64 off, .int .i64 (ttl - 1), .int .i64 pro, .int .i64 src, .int .i64 dst, .string opts, .string data] 32)) w5.heap.size [.int .i64 tos, .int .i64 id, .bool df, .bool mf, .int .i64 off, .int .i64 (ttl - 1), .int .i64 pro, .int .i64 src, .int .i64 dst, .string opts, .string data] := ⟨Bx.new w5 _ _, Fx.new w5 _ _, by omega, Nat.zero_le _⟩
      have hg5 := hB.size
      replace hP := hP.below ((Below.refl w5.heap.size w5).alloc (Nat.le_refl _) (.cells #[.int .i64 tos, .int .i64 id, .bool df, .bool mf, .int .i64 off, .int .i64 (ttl - 1), .int .i64 pro, .int .i64 src, .int .i64 dst, .string opts, .string data] 32))
      replace hB := hB.alloc hB.size (.cells #[.int .i64 tos, .int .i64 id, .bool df, .bool mf, .int .i64 off, .int .i64 (ttl - 1), .int .i64 pro, .int .i64 src, .int .i64 dst, .string opts, .string data] 32)
      have hgq : g4 ≠ w5.heap.size := by omega
      have hgr : w5.heap.size ≠ g4 := by omega
      go_upto_region 10 with fail
      generalize w5.alloc (.cells #[.int .i64 tos, .int .i64 id, .bool df, .bool mf, .int .i64 off, .int .i64 (ttl - 1), .int .i64 pro, .int .i64 src, .int .i64 dst, .string opts, .string data] 32) = u5 at *
      generalize w5.heap.size = g5 at *
      have q5 := hQ.bx.2 5 _ rfl
      have fq := hQ.fx.2
      have p5 := hP.bx.2 5 _ rfl
      go_upto_region 12 with fail
      clear q5 p5 fq
      replace hQ : OI _ 0 (u5.setCell ⟨g5, 5, none⟩ (.int .i64 ttl)) g5 [.int .i64 tos, .int .i64 id, .bool df, .bool mf, .int .i64 off, .int .i64 ttl, .int .i64 pro, .int .i64 src, .int .i64 dst, .string opts, .string data] := hQ.set 5 (.int .i64 ttl)
      replace hP := hP.beside (c := g5) (j := 5) hgr (.int .i64 ttl)
      replace hB := hB.setCell (p := ⟨g5, 5, none⟩) hg5 (.int .i64 ttl)
      generalize u5.setCell ⟨g5, 5, none⟩ (.int .i64 ttl) = u6 at *
      have gq := Tryd.ipGuard
      have HE6 := HE.out u6
      have p0 := hP.bx.2 0 _ rfl; have p1 := hP.bx.2 1 _ rfl; have p2 := hP.bx.2 2 _ rfl; have p3 := hP.bx.2 3 _ rfl; have p4 := hP.bx.2 4 _ rfl; have p5 := hP.bx.2 5 _ rfl; have p6 := hP.bx.2 6 _ rfl; have p7 := hP.bx.2 7 _ rfl; have p8 := hP.bx.2 8 _ rfl; have p9 := hP.bx.2 9 _ rfl; have p10 := hP.bx.2 10 _ rfl
      have q0 := hQ.bx.2 0 _ rfl; have q1 := hQ.bx.2 1 _ rfl; have q2 := hQ.bx.2 2 _ rfl; have q3 := hQ.bx.2 3 _ rfl; have q4 := hQ.bx.2 4 _ rfl; have q5 := hQ.bx.2 5 _ rfl; have q6 := hQ.bx.2 6 _ rfl; have q7 := hQ.bx.2 7 _ rfl; have q8 := hQ.bx.2 8 _ rfl; have q9 := hQ.bx.2 9 _ rfl; have q10 := hQ.bx.2 10 _ rfl
      have h5 : (ttl - 1 == ttl - 1) = true := by simp
      go_wp2
      go_ret
      exact ⟨by first | rfl | exact ret_bool (by simp), hB⟩
    · have hV : hopV s = .tuple #[.string ⟨#[]⟩, .bool false] := by
        unfold hopV hopOk
        by_cases h0 : ipCode s = 0
        · have : ¬ 1 < bt s 8 := fun h => hok ⟨h0, h⟩
          simp [h0, this]
        · simp [h0]
      rw [hV] at CH CS
      clear hok hV CR0 CH0
      go_wp2_with fail
      refine (CH.out _ hB).mono ?_
      rintro e w2 ⟨rfl, hX⟩
      replace hB := hB.trans (hX.mono hB.size)
      clear hX CH
      go_wp2_with fail
      refine (CS.out _).mono ?_
      rintro e w3 ⟨rfl, hX⟩
      replace hB := hB.trans (hX.mono hB.size)
      clear hX CS
      go_wp2
      go_ret
      exact ⟨rfl, hB⟩
end Go.Proofs.YtgknkhhoelgnhaaDoor
