/-
  The exact law of Fragments: its walk.
-/
import Derived.Test.YtgfpoohjbgdcpaaFrg5
import Derived.Test.YtgfpoohjbgdcpaaMarkIp
namespace Go.Proofs.Ytgfpoohjbgdcpaa
open Go.RowKit Go.PlainAid
theorem frL_len (p : IpV) (mtu : Int) : (frL p mtu).length ≤ 65536 := by
  unfold frL
  split
  · rename_i h
    have hk : frOk p mtu = true := by
      cases hk : frOk p mtu
      · unfold frC at h; rw [hk] at h; simp at h
      · rfl
    unfold frOk at hk
    rw [Bool.and_eq_true] at hk
    exact frSeq_len _ _ _ (ipOk_in hk.1).2.2.2
  · simp
theorem ownV.keptM {w w' : World} {B : Nat} {E : TypeId} {k : Nat} {v : Value} {n : Nat} {xs : List Value} {row : Option Nat} (h : ownV w B E k v n xs) (hg : w.grownBy w' row) (hne : ∀ b, v.ownBlock = some b → ¬ row = some b) : ownV w' B E k v n xs := by
  refine World.ownsRow.kept h hg ?_
  cases hv : v.ownBlock with
  | none => exact .inl rfl
  | some b => exact .inr fun e => hne b hv e.symm
set_option maxRecDepth 100000 in
set_option maxHeartbeats 6400000 in
theorem walk_FnExactFragments (p : IpV) (mtu : Int) (w : World) (ho : p.opts.size ≤ maxLen) (hd : p.data.size ≤ maxLen) (_hm : (Lit.int .i64 mtu).wf = true) :
    Calls Try.prog 3 #[.agg (ipL p), .int .i64 mtu] w fun e w' => e = .returned (.bool true) ∧ Below w.heap.size w w' := by
  unfold maxLen at ho hd
  have hb0 : Below w.heap.size w (w.alloc (.cells (ipL p) 23)) := (Below.refl _ w).alloc (Nat.le_refl _) _
  by_cases hz : 1048576 < p.opts.size + p.data.size
  · have CZ : Hid (∀ u : World, Calls Try.prog 8 #[.agg (ipL p), .int .i64 1048576] u fun e w' => e = .returned (.int .i64 (-1)) ∧ Below u.heap.size u w') := fun u => l_szIp_no p u hz (by omega) (by omega)
    obtain ⟨tos, id, df, mf, off, ttl, pro, src, dst, opts, data⟩ := p
    simp only [ipL] at *
    go_enter Try.func3, Try.ntmps3
    go_wp2_with (go_at_call 8; refine (CZ.out _).mono ?_; rintro e w1 ⟨rfl, hb1⟩)
    go_ret
    exact ⟨rfl, hb0.trans (hb1.mono hb0.size)⟩
  · have CZ : Hid (∀ u : World, Calls Try.prog 8 #[.agg (ipL p), .int .i64 1048576] u fun e w' => e = .returned (.int .i64 (1048576 - (p.opts.size : Int) - (p.data.size : Int))) ∧ Below u.heap.size u w') := fun u => l_szIp_yes p u (by omega)
    have CT : Hid (∀ u : World, Calls Try.prog 10 #[.agg (ipL p)] u fun e w' => e = .returned (.agg (ipL p)) ∧ Below u.heap.size u w') := fun u => l_toIp p u
    have CI : Hid (∀ u : World, Calls Try.prog 11 #[.agg (ipL p), .int .i64 mtu] u fun e w' => ∃ v, e = .returned (.tuple #[v, .int .i64 (frC p mtu)]) ∧ ownV w' u.heap.size 28 11 v (frL p mtu).length (iqF (frL p mtu)) ∧ Below u.heap.size u w') := fun u => i_Fragments p mtu u (by omega) (by omega)
    have CS : Hid (∀ u : World, Calls Try.prog 9 #[.agg (ipL p), .int .i64 mtu] u fun e w' => ∃ v, e = .returned (.tuple #[v, .int .i64 (frC p mtu)]) ∧ ownV w' u.heap.size 28 11 v (frL p mtu).length (iqF (frL p mtu)) ∧ Below u.heap.size u w') := fun u => s_Fragments p mtu u (by omega) (by omega)
    have CE : Hid (∀ (m : List IpV) (S1 S2 : Option Addr) (c1 c2 : Nat) (u : World), m.length ≤ 1099511627776 → CellsAt u S1 (iqF m) → CellsAt u S2 (iqF m) → Calls Try.prog 12 #[.slice S1 m.length c1, .slice S2 m.length c2] u fun e w' => e = .returned (.bool true) ∧ Below u.heap.size u w') := fun m S1 S2 c1 c2 u hm h1 h2 => l_eqIpS S1 S2 c1 c2 m u h1 h2 hm
    have hrl := frL_len p mtu
    have hA : Bx (w.alloc (.cells (ipL p) 23)) w.heap.size (ipL p).toList := Bx.new w _ _
    generalize frL p mtu = pr at *
    generalize frC p mtu = pc at *
    have hsz : ¬ (1048576 - (p.opts.size : Int) - (p.data.size : Int) < 0) := by omega
    have hpc : (pc != pc) = false := by simp
    obtain ⟨tos, id, df, mf, off, ttl, pro, src, dst, opts, data⟩ := p
    simp only [ipL] at *
    clear hz ho hd
    go_enter Try.func3, Try.ntmps3
    go_wp2_with fail
    refine (CZ.out _).mono ?_
    rintro e w1 ⟨rfl, hb⟩
    replace hA := hA.below hb; replace hb0 := hb0.trans (hb.mono hb0.size)
    clear hb CZ
    have a0 := hA.2 0 _ rfl; have a1 := hA.2 1 _ rfl; have a2 := hA.2 2 _ rfl; have a3 := hA.2 3 _ rfl; have a4 := hA.2 4 _ rfl; have a5 := hA.2 5 _ rfl; have a6 := hA.2 6 _ rfl; have a7 := hA.2 7 _ rfl; have a8 := hA.2 8 _ rfl; have a9 := hA.2 9 _ rfl; have a10 := hA.2 10 _ rfl
    go_wp2_with fail
    refine (CT.out _).mono ?_
    rintro e w2 ⟨rfl, hb⟩
    replace hA := hA.below hb; replace hb0 := hb0.trans (hb.mono hb0.size)
    clear hb a0 a1 a2 a3 a4 a5 a6 a7 a8 a9 a10
    go_wp2_with fail
    refine (CS.out _).mono ?_
    rintro e w3 ⟨vW, rfl, hW, hb⟩
    obtain ⟨TW, cW, rfl⟩ := hW.form
    have lW := World.ownsRow.lt hW
    replace hA := hA.below hb; replace hb0 := hb0.trans (hb.mono hb0.size)
    clear hb CS
    have a0 := hA.2 0 _ rfl; have a1 := hA.2 1 _ rfl; have a2 := hA.2 2 _ rfl; have a3 := hA.2 3 _ rfl; have a4 := hA.2 4 _ rfl; have a5 := hA.2 5 _ rfl; have a6 := hA.2 6 _ rfl; have a7 := hA.2 7 _ rfl; have a8 := hA.2 8 _ rfl; have a9 := hA.2 9 _ rfl; have a10 := hA.2 10 _ rfl
    go_wp2_with fail
    refine (CT.out _).mono ?_
    rintro e w4 ⟨rfl, hb⟩
    replace hA := hA.below hb; have hA4 : w.heap.size + 1 ≤ w4.heap.size := hA.1; replace hb0 := hb0.trans (hb.mono hb0.size)
    replace hW := hW.far hb
    clear hb a0 a1 a2 a3 a4 a5 a6 a7 a8 a9 a10
    go_wp2_with fail
    refine (CI.out _).mono ?_
    rintro e w5 ⟨vG, rfl, hG, hb⟩
    obtain ⟨TG, cG, rfl⟩ := hG.form
    have lG := World.ownsRow.lt hG
    have lW2 := World.ownsRow.lt hW
    replace hW := hW.far hb
    replace hA := hA.below hb; replace hb0 := hb0.trans (hb.mono hb0.size)
    clear hb
    go_wp2_with fail
    refine (CE.out pr _ _ _ _ _ (by omega) hG.reads.2 hW.reads.2).mono ?_
    rintro e w6 ⟨rfl, hb⟩
    replace hW := hW.far hb; replace hG := hG.far hb
    replace hA := hA.below hb; replace hb0 := hb0.trans (hb.mono hb0.size)
    clear hb
    have CM2 : Hid (∀ u : World, u = w6 → Calls Try.prog 13 #[.slice TG pr.length cG, .int .i64 1] u fun e w' => e = .returned (.int .i64 (1 + (pr.length : Int) * 11)) ∧ ownV w' w4.heap.size 28 11 (.slice TG pr.length cG) pr.length (iqF (iqMk pr.length)) ∧ u.grownBy w' (Value.slice TG pr.length cG).ownBlock) := by
      rintro u rfl; exact l_markIpS _ _ _ _ _ u hG (by omega)
    go_wp2_with fail
    refine (CM2.out _ rfl).mono ?_
    rintro e w7 ⟨rfl, hM, hg⟩
    replace hW := hW.keptM hg (fun b hb => by have := (lW2 b hb).2; intro hx; have := (lG b hx).1; omega)
    have hgA : ∀ b, (Value.slice TG pr.length cG).ownBlock = some b → w.heap.size + 1 ≤ b := fun b hb => by have := (lG b hb).1; have := hA4; omega
    replace hA := hA.keptF hg (fun e => by have := hgA _ e; omega)
    replace hb0 := hb0.grown hg hb0.size (fun b hb => by have := hgA b hb; omega)
    clear CM2 hG hg hgA
    have a0 := hA.2 0 _ rfl; have a1 := hA.2 1 _ rfl; have a2 := hA.2 2 _ rfl; have a3 := hA.2 3 _ rfl; have a4 := hA.2 4 _ rfl; have a5 := hA.2 5 _ rfl; have a6 := hA.2 6 _ rfl; have a7 := hA.2 7 _ rfl; have a8 := hA.2 8 _ rfl; have a9 := hA.2 9 _ rfl; have a10 := hA.2 10 _ rfl
    have CH : Hid (∀ u : World, ownV u w4.heap.size 28 11 (.slice TG pr.length cG) pr.length (iqF (iqMk pr.length)) → Calls Try.prog 14 #[.slice TG pr.length cG, .int .i64 1] u fun e w' => e = .returned (.int .i64 (1 + (pr.length : Int) * 11)) ∧ Below u.heap.size u w') := fun u hu => l_heldIpS _ _ _ _ u hu (by omega)
    have hq1 : ¬ (1 + (pr.length : Int) * 11 < 0) := by omega
    have hq2 : ((1 + (pr.length : Int) * 11) != (1 + (pr.length : Int) * 11)) = false := by simp
    go_wp2_with fail
    refine (CH.out _ hM).mono ?_
    rintro e w8 ⟨rfl, hb⟩
    replace hW := hW.far hb; replace hM := hM.far hb
    replace hA := hA.below hb; replace hb0 := hb0.trans (hb.mono hb0.size)
    clear hb a0 a1 a2 a3 a4 a5 a6 a7 a8 a9 a10
    have a0 := hA.2 0 _ rfl; have a1 := hA.2 1 _ rfl; have a2 := hA.2 2 _ rfl; have a3 := hA.2 3 _ rfl; have a4 := hA.2 4 _ rfl; have a5 := hA.2 5 _ rfl; have a6 := hA.2 6 _ rfl; have a7 := hA.2 7 _ rfl; have a8 := hA.2 8 _ rfl; have a9 := hA.2 9 _ rfl; have a10 := hA.2 10 _ rfl
    go_wp2_with fail
    refine (CT.out _).mono ?_
    rintro e w9 ⟨rfl, hb⟩
    replace hA := hA.below hb; replace hb0 := hb0.trans (hb.mono hb0.size)
    replace hW := hW.far hb
    replace hM := hM.far hb
    clear hb a0 a1 a2 a3 a4 a5 a6 a7 a8 a9 a10
    go_wp2_with fail
    refine (CI.out _).mono ?_
    rintro e w10 ⟨vK, rfl, hK, hb⟩
    obtain ⟨TK, cK, rfl⟩ := hK.form
    replace hW := hW.far hb; replace hM := hM.far hb
    replace hA := hA.below hb; replace hb0 := hb0.trans (hb.mono hb0.size)
    clear hb
    go_wp2_with fail
    refine (CE.out pr _ _ _ _ _ (by omega) hK.reads.2 hW.reads.2).mono ?_
    rintro e w11 ⟨rfl, hb⟩
    replace hM := hM.far hb
    replace hA := hA.below hb; replace hb0 := hb0.trans (hb.mono hb0.size)
    clear hb
    go_wp2_with fail
    refine (CH.out _ hM).mono ?_
    rintro e w12 ⟨rfl, hb⟩
    replace hb0 := hb0.trans (hb.mono hb0.size)
    clear hb
    go_wp2
    go_ret
    exact ⟨rfl, hb0⟩
end Go.Proofs.Ytgfpoohjbgdcpaa
