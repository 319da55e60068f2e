/-
  What is read as an MPLS, by program and model.
-/
import Derived.Test.YtlnhiaapjphefaaMpl3
import Derived.Deep.QuietTactic
namespace Go.Proofs.Ytlnhiaapjphefaa
open Go.RowKit Go.PlainAid
theorem beq_strm {T s : ByteArray} (h : T = s) : (T.toList == s.toList) = true := by rw [h]; simp
def mdat (s : ByteArray) : ByteArray := s.extract (4 * mcnt s + 4) s.size
def mpC (s : ByteArray) : Int := if 4 * mcnt s + 4 ≤ s.size then (if str (mpText (labsOf s (mcnt s)) (mdat s)) = s then 0 else 2) else 1
def mpR (s : ByteArray) : List LbV := if mpC s = 0 then labsOf s (mcnt s) else []
def mpD (s : ByteArray) : ByteArray := if mpC s = 0 then mdat s else ⟨#[]⟩
theorem mpR_len (s : ByteArray) : (mpR s).length ≤ 5 := by
  unfold mpR; split
  · rw [labsOf_len]; exact (mcnt_bd s).2
  · simp
theorem mp_no {s : ByteArray} {k : Int} (h : mpC s = k) (hk : ¬ k = 0) : mpR s = [] ∧ mpD s = ⟨#[]⟩ ∧ mpC s = k := by
  unfold mpR mpD; rw [h, if_neg hk, if_neg hk]; exact ⟨rfl, rfl, rfl⟩
theorem mp_yes {s : ByteArray} (h : mpC s = 0) : mpR s = labsOf s (mcnt s) ∧ mpD s = mdat s ∧ mpC s = 0 := by
  unfold mpR mpD; rw [h]; exact ⟨rfl, rfl, rfl⟩
set_option maxRecDepth 100000 in
set_option maxHeartbeats 1600000 in
theorem i_faultMp (T : Option Addr) (c : Nat) (l : List LbV) (data s : ByteArray) (w : World) (h : IntsAt w T (lbF l)) (hl : l.length ≤ 1048576) (hd : data.size ≤ 1099511627776) : Calls Try.prog 53 #[.iface 96 (.agg #[.slice T l.length c, .string data]), .string s] w fun e w' => e = .returned (.int .i64 (if str (mpText l data) = s then 0 else 2)) ∧ Below w.heap.size w w' := by
  have C : Hid (∀ u : World, u = w → Calls Try.prog 47 #[.iface 96 (.agg #[.slice T l.length c, .string data])] u fun e w' => e = .returned (.string (str (mpText l data))) ∧ Below u.heap.size u w') := by
    rintro u rfl; exact i_tunMp T c l data u h hl hd
  generalize str (mpText l data) = tx at *
  by_cases hq : tx = s
  · have hb := beq_strm hq
    rw [if_pos hq]
    clear hq
    go_enter Try.func53, Try.ntmps53
    go_wp2_with fail
    go_at_call 47
    refine (C.out _ rfl).mono ?_
    rintro e w1 ⟨rfl, hb1⟩
    have t1 := as_mp_ge (.agg #[.slice T l.length c, .string data]) w1
    have t2 := as_mp_gr (.agg #[.slice T l.length c, .string data]) w1
    have t3 := as_mp_vx (.agg #[.slice T l.length c, .string data]) w1
    have t4 := as_mp_mp (.agg #[.slice T l.length c, .string data]) w1
    go_wp2
    go_ret
    exact ⟨rfl, hb1⟩
  · have hb := str_ne hq
    rw [if_neg hq]
    clear hq
    go_enter Try.func53, Try.ntmps53
    go_wp2_with fail
    go_at_call 47
    refine (C.out _ rfl).mono ?_
    rintro e w1 ⟨rfl, hb1⟩
    go_wp2
    go_ret
    exact ⟨rfl, hb1⟩
set_option maxRecDepth 100000 in
set_option maxHeartbeats 6400000 in
theorem i_ReadMpls (s : ByteArray) (w : World) (hs : s.size ≤ 1099511627776) : Calls Try.prog 35 #[.string s] w fun e w' => ∃ v, e = .returned (.tuple #[v, .string (mpD s), .int .i64 (mpC s)]) ∧ ownR w' w.heap.size 55 3 v (mpR s).length (lbF (mpR s)) ∧ Below w.heap.size w w' := by
  have hA : Bx (w.alloc (.cells #[.string s, .int .i64 0, .bool false] 73)) w.heap.size (rdx s 0 false) := Bx.new w _ _
  have hF : Fx (w.alloc (.cells #[.string s, .int .i64 0, .bool false] 73)) w.heap.size := Fx.new w _ _
  have hB : Below w.heap.size w (w.alloc (.cells #[.string s, .int .i64 0, .bool false] 73)) := (Below.refl _ w).alloc (Nat.le_refl _) _
  have CL : Hid (∀ u : World, u = w.alloc (.cells #[.string s, .int .i64 0, .bool false] 73) → Calls Try.prog 67 #[.pointer (some ⟨w.heap.size, 0, none⟩)] u fun e w' => ∃ v, e = .returned v ∧ ownR w' u.heap.size 55 3 v (mcnt s) (lbF (labsOf s (mcnt s))) ∧ LabTo u w' w.heap.size s (mcnt s)) := by
    rintro u rfl; exact i_labels s _ _ hA hF hs
  have CP : Hid (∀ (p : Int) (f : Bool) (u : World), Bx u w.heap.size (rdx s p f) → Fx u w.heap.size → 0 ≤ p → p ≤ s.size → Calls Try.prog 50 #[.pointer (some ⟨w.heap.size, 0, none⟩), .int .i64 4] u fun e w' => e = .returned (.string (pieceAt s p 4)) ∧ RxTo u w' w.heap.size s (nxP s p 4) (nxF s p 4 f)) := fun p f u h1 h2 h3 h4 => i_rdPiece s p 4 f _ u h1 h2 h3 h4 (by omega) (by omega) hs
  have CR : Hid (∀ (p : Int) (f : Bool) (u : World), Bx u w.heap.size (rdx s p f) → 0 ≤ p → p ≤ s.size → Calls Try.prog 52 #[.pointer (some ⟨w.heap.size, 0, none⟩)] u fun e w' => e = .returned (.string (s.extract p.toNat s.size)) ∧ Below u.heap.size u w') := fun p f u h1 h2 h3 => i_rdRest s p f _ u h1 h2 h3 hs
  obtain ⟨hm1, hm5⟩ := mcnt_bd s
  go_enter Try.func35, Try.ntmps35
  go_wp2_with fail
  go_at_call 67
  refine (CL.out _ rfl).mono ?_
  rintro e w1 ⟨v, rfl, ho, hT⟩
  obtain ⟨p, f, hA1, hF1, hG1, hp0, hp1, hq1, hq2⟩ := hT.out
  replace hB := hB.grown hG1 hB.size (fun k hk => by simp at hk; omega)
  have hlo : w.heap.size < (w.alloc (.cells #[.string s, .int .i64 0, .bool false] 73)).heap.size := by simp
  replace ho := ho.mono (show w.heap.size + 1 ≤ _ from hlo)
  clear hA hF CL hT hG1 hlo
  go_wp2_with fail
  go_at_call 50
  refine (CP.out p f _ hA1 hF1 hp0 hp1).mono ?_
  rintro e w2 ⟨rfl, hR2⟩
  have hi := nxP_in (s := s) (p := p) (k := 4) hp0 hp1 (by omega)
  replace ho := own_kept ho hR2.grown (fun k hk => by have := (World.ownsRow.lt ho k hk).1; simp; omega)
  replace hB := hR2.beyond hB (Nat.le_refl _) hB.size
  clear hA1 hF1
  go_wp2_with fail
  go_at_call 52
  refine (CR.out _ _ _ hR2.box hi.1 hi.2).mono ?_
  rintro e w3 ⟨rfl, hb3⟩
  have hA3 := hR2.box.below hb3
  replace ho := ho.far hb3
  replace hB := hB.trans (hb3.mono hB.size)
  clear hR2 hb3 hi CP CR
  have a2 := hA3.2 2 _ rfl
  by_cases h8 : 4 * mcnt s + 4 ≤ s.size
  · obtain ⟨e1, e2⟩ := hq1 (by omega)
    subst e1 e2
    have e3 : nxF s (4 * (mcnt s : Int)) 4 false = false := by unfold nxF; rw [if_pos (by omega)]
    have e4 : nxP s (4 * (mcnt s : Int)) 4 = 4 * (mcnt s : Int) + 4 := by unfold nxP; rw [if_pos (by omega)]
    have e5 : s.extract (4 * (mcnt s : Int) + 4).toNat s.size = mdat s := by unfold mdat; congr 1
    rw [e3] at a2
    rw [e4, e5]
    have hlen := labsOf_len s (mcnt s)
    have hdz : (mdat s).size ≤ 1099511627776 := by unfold mdat; simp; omega
    have HC : Hid (mpC s = if str (mpText (labsOf s (mcnt s)) (mdat s)) = s then 0 else 2) := by show _ = _; unfold mpC; rw [if_pos h8]
    have HY : Hid (mpC s = 0 → mpR s = labsOf s (mcnt s) ∧ mpD s = mdat s ∧ mpC s = 0) := fun h => mp_yes h
    have HN : Hid (mpC s = 2 → mpR s = [] ∧ mpD s = ⟨#[]⟩ ∧ mpC s = 2) := fun h => mp_no h (by omega)
    clear e3 e4 e5 hA3 hq1 hq2 hp0 hp1
    obtain ⟨T, c, rfl⟩ := ho.form
    have CF : Hid (∀ u : World, u = w3 → Calls Try.prog 53 #[.iface 96 (.agg #[.slice T (mcnt s) c, .string (mdat s)]), .string s] u fun e w' => e = .returned (.int .i64 (if str (mpText (labsOf s (mcnt s)) (mdat s)) = s then 0 else 2)) ∧ Below u.heap.size u w') := by
      rintro u rfl
      have := i_faultMp T c (labsOf s (mcnt s)) (mdat s) s u ho.reads.2 (by rw [hlen]; omega) hdz
      rw [hlen] at this; exact this
    generalize mdat s = da at *
    generalize labsOf s (mcnt s) = ll at *
    generalize mcnt s = mm at *
    generalize str (mpText ll da) = tx at *
    by_cases hq : tx = s
    · rw [if_pos hq] at CF HC
      have YY : Hid (mpR s = ll ∧ mpD s = da ∧ mpC s = 0) := HY.out HC.out
      clear HC HY HN hq
      go_wp2_with (go_at_call 53; refine (CF.out _ rfl).mono ?_; rintro e w5 ⟨rfl, hb5⟩)
      go_ret3
      exact ⟨_, by rw [YY.out.2.1, YY.out.2.2]; rfl, by rw [YY.out.1, hlen]; exact (ho.far hb5).mono (by omega), hB.trans (hb5.mono hB.size)⟩
    · rw [if_neg hq] at CF HC
      have YY : Hid (mpR s = [] ∧ mpD s = ⟨#[]⟩ ∧ mpC s = 2) := HN.out HC.out
      clear HC HY HN hq
      go_wp2_with (go_at_call 53; refine (CF.out _ rfl).mono ?_; rintro e w5 ⟨rfl, hb5⟩)
      go_ret3
      exact ⟨_, by rw [YY.out.2.1, YY.out.2.2]; rfl, by rw [YY.out.1]; exact ownR.nil _ _ _ _, hB.trans (hb5.mono hB.size)⟩
  · have e3 : nxF s p 4 f = true := by
      by_cases h5 : 4 * (mcnt s : Int) ≤ s.size
      · unfold nxF; rw [(hq1 h5).1, if_neg (by omega)]
      · unfold nxF; rw [(hq2 (by omega)).1]; split <;> rfl
    rw [e3] at a2
    have YY : Hid (mpR s = [] ∧ mpD s = ⟨#[]⟩ ∧ mpC s = 1) := mp_no (by unfold mpC; rw [if_neg h8]) (by omega)
    clear e3 hA3 hq1 hq2
    generalize nxP s p 4 = pp at *
    obtain ⟨T, c, rfl⟩ := ho.form
    go_wp2
    go_ret3
    exact ⟨_, by rw [YY.out.2.1, YY.out.2.2]; rfl, by rw [YY.out.1]; exact ownR.nil _ _ _ _, hB⟩
end Go.Proofs.Ytlnhiaapjphefaa
