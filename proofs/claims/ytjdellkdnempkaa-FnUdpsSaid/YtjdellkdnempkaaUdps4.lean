/-
  The contract of the program's ReadUdp.
-/
import Derived.Test.YtjdellkdnempkaaUdps3
namespace Go.Proofs.Ytjdellkdnempkaa
open Go.RowKit Go.PlainAid
theorem Bx.other {W : World} {b : Nat} {vs : List Value} (h : Bx W b vs) {b' j : Nat} (hb : b' ≠ b) (u : Value) : Bx (W.setCell ⟨b', j, none⟩ u) b vs :=
  ⟨by simpa using h.1, fun i v hi => (World.cell?_setCell_far _ _ _ _ hb).trans (h.2 i v hi)⟩
theorem Bx.set {W : World} {b : Nat} {vs : List Value} (h : Bx W b vs) (j : Nat) (u : Value) : Bx (W.setCell ⟨b, j, none⟩ u) b (vs.set j u) := by
  refine ⟨by simpa using h.1, fun i v hi => ?_⟩
  rw [List.getElem?_set] at hi
  by_cases e : j = i
  · subst e
    rw [if_pos rfl] at hi
    by_cases hl : j < vs.length
    · rw [if_pos hl] at hi
      cases hi
      exact World.cell?_setCell_same _ _ _ (h.2 j vs[j] (by simp [hl]))
    · rw [if_neg hl] at hi; cases hi
  · rw [if_neg e] at hi
    exact (World.cell?_setCell_other _ _ _ _ (fun k => e (congrArg Addr.off k))).trans (h.2 i v hi)
/-- block b may be written -/
def Fr (W : World) (b : Nat) : Prop := b < W.heap.size ∧ ∀ j, W.frozen? ⟨b, j, none⟩ = false
theorem Fr.below {W W' : World} {b : Nat} (h : Fr W b) (hb : Below W.heap.size W W') : Fr W' b :=
  ⟨Nat.lt_of_lt_of_le h.1 hb.size, fun j => (hb.frozen (p := ⟨b, j, none⟩) h.1).trans (h.2 j)⟩
theorem Fr.drew {W : World} {b : Nat} (h : Fr W b) : Fr W.drew b := h
theorem Fr.set {W : World} {b : Nat} (h : Fr W b) (p : Addr) (u : Value) : Fr (W.setCell p u) b := ⟨by simpa using h.1, fun j => by simpa using h.2 j⟩
theorem Fr.new (W : World) (vs : Array Value) (t : TypeId) : Fr (W.alloc (.cells vs t)) W.heap.size := ⟨by simp, fun j => by simp⟩
set_option maxRecDepth 100000 in
set_option maxHeartbeats 6400000 in
theorem i_ReadUdp (a b : Int) (s : ByteArray) (w : World) (hs : s.size ≤ 1099511627776) :
    Calls Try.prog 10 #[.int .i64 a, .int .i64 b, .string s] w fun e w' => e = .returned (.tuple #[.agg (udpL (readUdp a b s)), .bool (okUdp a b s)]) ∧ Below w.heap.size w w' := by
  by_cases h8 : s.size < 8
  · have hk : okUdp a b s = false := by unfold okUdp; rw [decide_eq_false (by omega)]; rfl
    have HT : Hid (udpL (readUdp a b s) = udpL udp0) := by show _ = _; unfold readUdp; rw [hk]; rfl
    rw [hk]
    generalize udpL (readUdp a b s) = tx at *
    clear hk
    go_enter Try.func10, Try.ntmps10
    go_wp2
    refine bodyPost_ret (v := .tuple #[.agg #[.int .i64 0, .int .i64 0, .bool false, .string ⟨#[]⟩], .bool false]) ?_ rfl ⟨by rw [HT.out]; rfl, ?_⟩
    · simp [results, Try.results10, go_sem]
    · go_grown
  · have CA : Hid (∀ (x k : Int) (u : World), 0 ≤ x → 1 ≤ k → k ≤ 7 → x + k ≤ s.size → Calls Try.prog 28 #[.string s, .int .i64 x, .int .i64 k] u fun e w' => e = .returned (.int .i64 (fld s x k)) ∧ w' = u) := fun x k u h0 h1 h2 h3 => i_fieldAt s x k u hs h0 h1 h2 h3
    have CC : Hid (∀ u : World, Calls Try.prog 29 #[.string (s.extract 8 s.size)] u fun e w' => e = .returned (.string (s.extract 8 s.size)) ∧ Below u.heap.size u w') := fun u => c_Clone _ u (by simp; omega)
    have CU : Hid (∀ u : World, Calls Try.prog 8 #[.int .i64 a, .int .i64 b, .agg (udpL (rdUdp s))] u fun e w' => e = .returned (.string (str (udpText a b (rdUdp s)))) ∧ Below u.heap.size u w') := fun u => i_UdpBytes a b _ u (by show (s.extract 8 s.size).size ≤ _; simp; omega)
    have HO : Hid (okUdp a b s = decide (str (udpText a b (rdUdp s)) = s)) := by show _ = _; unfold okUdp; rw [decide_eq_true (by omega)]; rfl
    have HR : Hid (udpL (readUdp a b s) = udpL (if okUdp a b s then rdUdp s else udp0)) := rfl
    have hR0 : Bx (w.alloc (.cells #[.int .i64 0, .int .i64 0, .bool false, .string ⟨#[]⟩] 25)) w.heap.size [.int .i64 0, .int .i64 0, .bool false, .string ⟨#[]⟩] := Bx.new w _ _
    have hR1 : Bx ((w.alloc (.cells #[.int .i64 0, .int .i64 0, .bool false, .string ⟨#[]⟩] 25)).alloc (.cells #[.int .i64 0, .int .i64 0, .bool false, .string ⟨#[]⟩] 25)) w.heap.size [.int .i64 0, .int .i64 0, .bool false, .string ⟨#[]⟩] := hR0.below ((Below.refl _ _).alloc (Nat.le_refl _) _)
    have hT1 : Bx ((w.alloc (.cells #[.int .i64 0, .int .i64 0, .bool false, .string ⟨#[]⟩] 25)).alloc (.cells #[.int .i64 0, .int .i64 0, .bool false, .string ⟨#[]⟩] 25)) (w.heap.size + 1) [.int .i64 0, .int .i64 0, .bool false, .string ⟨#[]⟩] := by have := Bx.new (w.alloc (.cells #[.int .i64 0, .int .i64 0, .bool false, .string ⟨#[]⟩] 25)) #[.int .i64 0, .int .i64 0, .bool false, .string ⟨#[]⟩] 25; simpa using this
    have hF0 : Fr (w.alloc (.cells #[.int .i64 0, .int .i64 0, .bool false, .string ⟨#[]⟩] 25)) w.heap.size := Fr.new w _ _
    have hF1 : Fr ((w.alloc (.cells #[.int .i64 0, .int .i64 0, .bool false, .string ⟨#[]⟩] 25)).alloc (.cells #[.int .i64 0, .int .i64 0, .bool false, .string ⟨#[]⟩] 25)) w.heap.size := hF0.below ((Below.refl _ _).alloc (Nat.le_refl _) _)
    have hG1 : Fr ((w.alloc (.cells #[.int .i64 0, .int .i64 0, .bool false, .string ⟨#[]⟩] 25)).alloc (.cells #[.int .i64 0, .int .i64 0, .bool false, .string ⟨#[]⟩] 25)) (w.heap.size + 1) := by have := Fr.new (w.alloc (.cells #[.int .i64 0, .int .i64 0, .bool false, .string ⟨#[]⟩] 25)) #[.int .i64 0, .int .i64 0, .bool false, .string ⟨#[]⟩] 25; simpa using this
    have hB0 : Below w.heap.size w (w.alloc (.cells #[.int .i64 0, .int .i64 0, .bool false, .string ⟨#[]⟩] 25)) := (Below.refl _ w).alloc (Nat.le_refl _) _
    have hB1 : Below w.heap.size w ((w.alloc (.cells #[.int .i64 0, .int .i64 0, .bool false, .string ⟨#[]⟩] 25)).alloc (.cells #[.int .i64 0, .int .i64 0, .bool false, .string ⟨#[]⟩] 25)) := hB0.alloc (by simp) _
    by_cases hE : str (udpText a b (rdUdp s)) = s
    · rw [hE] at CU
      rw [decide_eq_true hE] at HO
      rw [HO.out, if_pos rfl] at HR
      rw [HO.out]
      generalize udpL (readUdp a b s) = tx at *
      clear hE HO
      simp only [udpL, rdUdp] at *
      go_enter Try.func10, Try.ntmps10
      go_wp2_with fail
      go_region_with (first
        | (go_at_call 28; refine (CA.out _ _ _ (by decide) (by decide) (by decide) (by omega)).mono ?_; rintro e wq ⟨rfl, hq⟩; rw [hq]; clear hq wq)
        | (go_at_call 29; refine (CC.out _).mono ?_; rintro e w3 ⟨rfl, hb3⟩; first | (have hR3 := hR0.drew.below hb3; have hF3 := hF0.drew.below hb3; have hB3 := hB0.drew.trans (hb3.mono hB0.size); clear hb3) | (have hR3 := hR1.drew.below hb3; have hF3 := hF1.drew.below hb3; have hG3 := (hG1.drew.below hb3).2; have hT3 := hT1.drew.below hb3; have hB3 := hB1.drew.trans (hb3.mono hB1.size); clear hb3; have y0 := hT3.2 0 _ rfl; have y1 := hT3.2 1 _ rfl; have y2 := hT3.2 2 _ rfl; have y3 := hT3.2 3 _ rfl; have y9 := hT3.1)))
      all_goals
        first
        | (have hU := (((hT3.set 0 (.int .i64 (fld s 0 2))).set 1 (.int .i64 (fld s 2 2))).set 2 (.bool (fld s 6 2 != 0))).set 3 (.string (s.extract 8 s.size)); have hR9 := (((hR3.other (b' := w.heap.size + 1) (j := 0) (by omega) (.int .i64 (fld s 0 2))).other (b' := w.heap.size + 1) (j := 1) (by omega) (.int .i64 (fld s 2 2))).other (b' := w.heap.size + 1) (j := 2) (by omega) (.bool (fld s 6 2 != 0))).other (b' := w.heap.size + 1) (j := 3) (by omega) (.string (s.extract 8 s.size)); have hF9 := (((hF3.set ⟨w.heap.size + 1, 0, none⟩ (.int .i64 (fld s 0 2))).set ⟨w.heap.size + 1, 1, none⟩ (.int .i64 (fld s 2 2))).set ⟨w.heap.size + 1, 2, none⟩ (.bool (fld s 6 2 != 0))).set ⟨w.heap.size + 1, 3, none⟩ (.string (s.extract 8 s.size)); have hB9 := (((hB3.setCell (p := ⟨w.heap.size + 1, 0, none⟩) (by simp) (.int .i64 (fld s 0 2))).setCell (p := ⟨w.heap.size + 1, 1, none⟩) (by simp) (.int .i64 (fld s 2 2))).setCell (p := ⟨w.heap.size + 1, 2, none⟩) (by simp) (.bool (fld s 6 2 != 0))).setCell (p := ⟨w.heap.size + 1, 3, none⟩) (by simp) (.string (s.extract 8 s.size)); clear y0 y1 y2 y3 hT3 hG3; generalize hW : (((w3.setCell _ _).setCell _ _).setCell _ _).setCell _ _ = w5 at *; generalize hg : w.heap.size + 1 = g at *)
        | (have hU := Bx.new w3 #[.int .i64 (fld s 0 2), .int .i64 (fld s 2 2), .bool (fld s 6 2 != 0), .string (s.extract 8 s.size)] 25; have hR9 := hR3.below ((Below.refl _ w3).alloc (Nat.le_refl _) (.cells #[.int .i64 (fld s 0 2), .int .i64 (fld s 2 2), .bool (fld s 6 2 != 0), .string (s.extract 8 s.size)] 25)); have hF9 := hF3.below ((Below.refl _ w3).alloc (Nat.le_refl _) (.cells #[.int .i64 (fld s 0 2), .int .i64 (fld s 2 2), .bool (fld s 6 2 != 0), .string (s.extract 8 s.size)] 25)); have hB9 := hB3.alloc hB3.size (.cells #[.int .i64 (fld s 0 2), .int .i64 (fld s 2 2), .bool (fld s 6 2 != 0), .string (s.extract 8 s.size)] 25); generalize hW : w3.alloc (.cells #[.int .i64 (fld s 0 2), .int .i64 (fld s 2 2), .bool (fld s 6 2 != 0), .string (s.extract 8 s.size)] 25) = w5 at *; generalize hg : w3.heap.size = g at *)
        clear hW hR3 hF3 hB3
        have u0 := hU.2 0 _ rfl
        have u1 := hU.2 1 _ rfl
        have u2 := hU.2 2 _ rfl
        have u3 := hU.2 3 _ rfl
        go_wp2_with fail
        refine (CU.out _).mono ?_
        rintro e w9 ⟨rfl, hb9⟩
        replace hU := hU.below hb9
        replace hR9 := hR9.below hb9
        replace hF9 := (hF9.below hb9).2
        replace hB9 := hB9.trans (hb9.mono hB9.size)
        clear hb9 u0 u1 u2 u3
        have u0 := hU.2 0 _ rfl
        have u1 := hU.2 1 _ rfl
        have u2 := hU.2 2 _ rfl
        have u3 := hU.2 3 _ rfl
        have r0 := hR9.2 0 _ rfl
        have r1 := hR9.2 1 _ rfl
        have r2 := hR9.2 2 _ rfl
        have r3 := hR9.2 3 _ rfl
        go_wp2
        refine bodyPost_ret (v := .tuple #[.agg #[.int .i64 (fld s 0 2), .int .i64 (fld s 2 2), .bool (fld s 6 2 != 0), .string (s.extract 8 s.size)], .bool true]) ?_ rfl ⟨by rw [HR.out], ?_⟩
        · simp [results, Try.results10, go_sem, r0, r1, r2, r3]
        · go_grown
    · have hN := str_ne hE
      rw [decide_eq_false hE] at HO
      rw [HO.out] at HR
      simp only [Bool.false_eq_true, if_false] at HR
      rw [HO.out]
      generalize str (udpText a b (rdUdp s)) = tt at *
      generalize udpL (readUdp a b s) = tx at *
      clear hE HO
      simp only [udpL, rdUdp, udp0] at *
      go_enter Try.func10, Try.ntmps10
      go_wp2_with fail
      go_region_with (first
        | (go_at_call 28; refine (CA.out _ _ _ (by decide) (by decide) (by decide) (by omega)).mono ?_; rintro e wq ⟨rfl, hq⟩; rw [hq]; clear hq wq)
        | (go_at_call 29; refine (CC.out _).mono ?_; rintro e w3 ⟨rfl, hb3⟩; first | (have hR3 := hR0.drew.below hb3; have hF3 := hF0.drew.below hb3; have hB3 := hB0.drew.trans (hb3.mono hB0.size); clear hb3) | (have hR3 := hR1.drew.below hb3; have hF3 := hF1.drew.below hb3; have hG3 := (hG1.drew.below hb3).2; have hT3 := hT1.drew.below hb3; have hB3 := hB1.drew.trans (hb3.mono hB1.size); clear hb3; have y0 := hT3.2 0 _ rfl; have y1 := hT3.2 1 _ rfl; have y2 := hT3.2 2 _ rfl; have y3 := hT3.2 3 _ rfl; have y9 := hT3.1)))
      all_goals
        first
        | (have hU := (((hT3.set 0 (.int .i64 (fld s 0 2))).set 1 (.int .i64 (fld s 2 2))).set 2 (.bool (fld s 6 2 != 0))).set 3 (.string (s.extract 8 s.size)); have hR9 := (((hR3.other (b' := w.heap.size + 1) (j := 0) (by omega) (.int .i64 (fld s 0 2))).other (b' := w.heap.size + 1) (j := 1) (by omega) (.int .i64 (fld s 2 2))).other (b' := w.heap.size + 1) (j := 2) (by omega) (.bool (fld s 6 2 != 0))).other (b' := w.heap.size + 1) (j := 3) (by omega) (.string (s.extract 8 s.size)); have hF9 := (((hF3.set ⟨w.heap.size + 1, 0, none⟩ (.int .i64 (fld s 0 2))).set ⟨w.heap.size + 1, 1, none⟩ (.int .i64 (fld s 2 2))).set ⟨w.heap.size + 1, 2, none⟩ (.bool (fld s 6 2 != 0))).set ⟨w.heap.size + 1, 3, none⟩ (.string (s.extract 8 s.size)); have hB9 := (((hB3.setCell (p := ⟨w.heap.size + 1, 0, none⟩) (by simp) (.int .i64 (fld s 0 2))).setCell (p := ⟨w.heap.size + 1, 1, none⟩) (by simp) (.int .i64 (fld s 2 2))).setCell (p := ⟨w.heap.size + 1, 2, none⟩) (by simp) (.bool (fld s 6 2 != 0))).setCell (p := ⟨w.heap.size + 1, 3, none⟩) (by simp) (.string (s.extract 8 s.size)); clear y0 y1 y2 y3 hT3 hG3; generalize hW : (((w3.setCell _ _).setCell _ _).setCell _ _).setCell _ _ = w5 at *; generalize hg : w.heap.size + 1 = g at *)
        | (have hU := Bx.new w3 #[.int .i64 (fld s 0 2), .int .i64 (fld s 2 2), .bool (fld s 6 2 != 0), .string (s.extract 8 s.size)] 25; have hR9 := hR3.below ((Below.refl _ w3).alloc (Nat.le_refl _) (.cells #[.int .i64 (fld s 0 2), .int .i64 (fld s 2 2), .bool (fld s 6 2 != 0), .string (s.extract 8 s.size)] 25)); have hF9 := hF3.below ((Below.refl _ w3).alloc (Nat.le_refl _) (.cells #[.int .i64 (fld s 0 2), .int .i64 (fld s 2 2), .bool (fld s 6 2 != 0), .string (s.extract 8 s.size)] 25)); have hB9 := hB3.alloc hB3.size (.cells #[.int .i64 (fld s 0 2), .int .i64 (fld s 2 2), .bool (fld s 6 2 != 0), .string (s.extract 8 s.size)] 25); generalize hW : w3.alloc (.cells #[.int .i64 (fld s 0 2), .int .i64 (fld s 2 2), .bool (fld s 6 2 != 0), .string (s.extract 8 s.size)] 25) = w5 at *; generalize hg : w3.heap.size = g at *)
        clear hW hR3 hF3 hB3
        have u0 := hU.2 0 _ rfl
        have u1 := hU.2 1 _ rfl
        have u2 := hU.2 2 _ rfl
        have u3 := hU.2 3 _ rfl
        go_wp2_with fail
        refine (CU.out _).mono ?_
        rintro e w9 ⟨rfl, hb9⟩
        replace hU := hU.below hb9
        replace hR9 := hR9.below hb9
        replace hF9 := (hF9.below hb9).2
        replace hB9 := hB9.trans (hb9.mono hB9.size)
        clear hb9 u0 u1 u2 u3
        have u0 := hU.2 0 _ rfl
        have u1 := hU.2 1 _ rfl
        have u2 := hU.2 2 _ rfl
        have u3 := hU.2 3 _ rfl
        have r0 := hR9.2 0 _ rfl
        have r1 := hR9.2 1 _ rfl
        have r2 := hR9.2 2 _ rfl
        have r3 := hR9.2 3 _ rfl
        go_wp2
        refine bodyPost_ret (v := .tuple #[.agg #[.int .i64 0, .int .i64 0, .bool false, .string ⟨#[]⟩], .bool false]) ?_ rfl ⟨by rw [HR.out], ?_⟩
        · simp [results, Try.results10, go_sem, r0, r1, r2, r3]
        · go_grown
end Go.Proofs.Ytjdellkdnempkaa
