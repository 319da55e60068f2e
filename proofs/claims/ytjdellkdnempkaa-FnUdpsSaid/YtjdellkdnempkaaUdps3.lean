/-
  Contracts of ReadUdp, of the program and of the model; the exact law on it.
-/
import Derived.Test.YtjdellkdnempkaaUdps2
import Derived.Test.YtjdellkdnempkaaClone
import Derived.Deep.RegionWith
import Derived.Deep.RegionHeld3
namespace Go.Proofs.Ytjdellkdnempkaa
open Go.RowKit Go.PlainAid
/-- the number in k bytes at place a -/
def fld (s : ByteArray) (a k : Int) : Int := num (((bl s).drop a.toNat).take k.toNat)
theorem s_Fld (s : ByteArray) (a k : Int) (w : World) (hs : s.size ≤ 1099511627776) (h0 : 0 ≤ a) (hk : 1 ≤ k) (hk1 : k ≤ 7) (hin : a + k ≤ s.size) :
    Calls Try.prog 30 #[.string s, .int .i64 a, .int .i64 k] w fun e w' => e = .returned (.int .i64 (fld s a k)) ∧ w' = w := s_At s a k w (by unfold maxLen; omega) h0 (by omega) hk1 hin
theorem i_fieldAt (s : ByteArray) (a k : Int) (w : World) (hs : s.size ≤ 1099511627776) (h0 : 0 ≤ a) (hk : 1 ≤ k) (hk1 : k ≤ 7) (hin : a + k ≤ s.size) :
    Calls Try.prog 28 #[.string s, .int .i64 a, .int .i64 k] w fun e w' => e = .returned (.int .i64 (fld s a k)) ∧ w' = w := by
  have C : Hid (∀ u : World, Calls Try.prog 40 #[.string s, .int .i64 a, .int .i64 k] u fun e w' => e = .returned (.tuple #[.int .i64 (fld s a k), .bool true]) ∧ w' = u) := fun u => by
    have := i_NumAt s a k u (by unfold maxLen; omega)
    have h2 := okN_true (s := s) (at_ := a) (k := k) ⟨hk, hk1, h0, hin⟩
    rw [h2.1, h2.2] at this
    exact this
  generalize fld s a k = n at *
  go_enter Try.func28, Try.ntmps28
  go_wp2_with (go_at_call 40; refine (C.out _).mono ?_; rintro e wq ⟨rfl, hq⟩; rw [hq]; clear hq wq)
  go_ret
  exact ⟨rfl, rfl⟩
def udp0 : UdpV := ⟨0, 0, false, ⟨#[]⟩⟩
/-- what these bytes would tell -/
def rdUdp (s : ByteArray) : UdpV := ⟨fld s 0 2, fld s 2 2, (fld s 6 2 != 0), s.extract 8 s.size⟩
def okUdp (a b : Int) (s : ByteArray) : Bool := decide (8 ≤ s.size) && decide (str (udpText a b (rdUdp s)) = s)
def readUdp (a b : Int) (s : ByteArray) : UdpV := if okUdp a b s then rdUdp s else udp0

theorem Bx.drew {W : World} {b : Nat} {vs : List Value} (h : Bx W b vs) : Bx W.drew b vs := h
theorem bcell9 {W w1 : World} (hb : Below W.heap.size W w1) : (∀ b o, b < W.heap.size → w1.cell? ⟨b, o, none⟩ = W.cell? ⟨b, o, none⟩) ∧ (∀ b o, b < W.heap.size → w1.frozen? ⟨b, o, none⟩ = W.frozen? ⟨b, o, none⟩) :=
  ⟨fun b o h => hb.cell (p := ⟨b, o, none⟩) h, fun b o h => hb.frozen (p := ⟨b, o, none⟩) h⟩
set_option maxRecDepth 100000 in
set_option maxHeartbeats 3200000 in
theorem s_ReadUdp (a b : Int) (s : ByteArray) (w : World) (hs : s.size ≤ 1099511627776) :
    Calls Try.prog 11 #[.int .i64 a, .int .i64 b, .string s] w fun e w' => e = .returned (.tuple #[.agg (udpL (readUdp a b s)), .bool (okUdp a b s)]) ∧ Below w.heap.size w w' := by
  by_cases h8 : s.size < 8
  · have hk : okUdp a b s = false := by unfold okUdp; rw [decide_eq_false (by omega)]; rfl
    have HT : Hid (udpL (readUdp a b s) = udpL udp0) := by show _ = _; unfold readUdp; rw [hk]; rfl
    rw [hk]
    generalize udpL (readUdp a b s) = tx at *
    clear hk
    go_enter Try.func11, Try.ntmps11
    go_wp2
    refine bodyPost_ret (v := .tuple #[.agg #[.int .i64 0, .int .i64 0, .bool false, .string ⟨#[]⟩], .bool false]) ?_ rfl ⟨by rw [HT.out]; rfl, ?_⟩
    · simp [results, Try.results11, go_sem]
    · go_grown
  · have CA : Hid (∀ (x k : Int) (u : World), 0 ≤ x → 1 ≤ k → k ≤ 7 → x + k ≤ s.size → Calls Try.prog 30 #[.string s, .int .i64 x, .int .i64 k] u fun e w' => e = .returned (.int .i64 (fld s x k)) ∧ w' = u) := fun x k u h0 h1 h2 h3 => s_Fld s x k u hs h0 h1 h2 h3
    have CU : Hid (∀ u : World, Calls Try.prog 12 #[.int .i64 a, .int .i64 b, .agg (udpL (rdUdp s))] u fun e w' => e = .returned (.string (str (udpText a b (rdUdp s)))) ∧ Below u.heap.size u w') := fun u => s_UdpBytes a b _ u (by show (s.extract 8 s.size).size ≤ _; simp; omega)
    have HO : Hid (okUdp a b s = decide (str (udpText a b (rdUdp s)) = s)) := by show _ = _; unfold okUdp; rw [decide_eq_true (by omega)]; rfl
    have HR : Hid (udpL (readUdp a b s) = udpL (if okUdp a b s then rdUdp s else udp0)) := rfl
    by_cases hE : str (udpText a b (rdUdp s)) = s
    · rw [hE] at CU
      rw [decide_eq_true hE] at HO
      rw [HO.out, if_pos rfl] at HR
      rw [HO.out]
      generalize udpL (readUdp a b s) = tx at *
      clear hE HO
      simp only [udpL, rdUdp] at *
      go_enter Try.func11, Try.ntmps11
      go_wp2_with fail
      go_region_with ((go_at_call 30; refine (CA.out _ _ _ (by decide) (by decide) (by decide) (by omega)).mono ?_; rintro e wq ⟨rfl, hq⟩; rw [hq]; clear hq wq))
      all_goals
        go_wp2_with fail
        refine (CU.out _).mono ?_
        rintro e w9 ⟨rfl, hb9⟩
        have hR9 := Bx.below (b := w.heap.size) (vs := [.int .i64 0, .int .i64 0, .bool false, .string ⟨#[]⟩]) (Bx.drew (Bx.below (Bx.new w #[.int .i64 0, .int .i64 0, .bool false, .string ⟨#[]⟩] 25) ((Below.refl _ _).alloc (Nat.le_refl _) (.cells #[.int .i64 (fld s 0 2), .int .i64 (fld s 2 2), .bool (fld s 6 2 != 0), .string (s.extract 8 s.size)] 25)))) hb9
        have hB9 : Below w.heap.size w w9 := ((((Below.refl w.heap.size w).alloc (Nat.le_refl _) (.cells #[.int .i64 0, .int .i64 0, .bool false, .string ⟨#[]⟩] 25)).alloc (by simp) (.cells #[.int .i64 (fld s 0 2), .int .i64 (fld s 2 2), .bool (fld s 6 2 != 0), .string (s.extract 8 s.size)] 25)).drew).trans (hb9.mono (by simp; omega))
        obtain ⟨hc9, hf9⟩ := bcell9 hb9
        clear hb9
        have r0 := hR9.2 0 _ rfl
        have r1 := hR9.2 1 _ rfl
        have r2 := hR9.2 2 _ rfl
        have r3 := hR9.2 3 _ rfl
        clear hR9
        go_wp2
        refine bodyPost_ret (v := .tuple #[.agg #[.int .i64 (fld s 0 2), .int .i64 (fld s 2 2), .bool (fld s 6 2 != 0), .string (s.extract 8 s.size)], .bool true]) ?_ rfl ⟨by rw [HR.out], ?_⟩
        · simp [results, Try.results11, go_sem, r0, r1, r2, r3]
        · go_grown
    · have hN := str_ne hE
      rw [decide_eq_false hE] at HO
      rw [HO.out] at HR
      simp only [Bool.false_eq_true, if_false] at HR
      rw [HO.out]
      generalize str (udpText a b (rdUdp s)) = tt at *
      generalize udpL (readUdp a b s) = tx at *
      clear hE HO
      simp only [udpL, rdUdp, udp0] at *
      go_enter Try.func11, Try.ntmps11
      go_wp2_with fail
      go_region_with ((go_at_call 30; refine (CA.out _ _ _ (by decide) (by decide) (by decide) (by omega)).mono ?_; rintro e wq ⟨rfl, hq⟩; rw [hq]; clear hq wq))
      all_goals
        go_wp2_with fail
        refine (CU.out _).mono ?_
        rintro e w9 ⟨rfl, hb9⟩
        have hR9 := Bx.below (b := w.heap.size) (vs := [.int .i64 0, .int .i64 0, .bool false, .string ⟨#[]⟩]) (Bx.drew (Bx.below (Bx.new w #[.int .i64 0, .int .i64 0, .bool false, .string ⟨#[]⟩] 25) ((Below.refl _ _).alloc (Nat.le_refl _) (.cells #[.int .i64 (fld s 0 2), .int .i64 (fld s 2 2), .bool (fld s 6 2 != 0), .string (s.extract 8 s.size)] 25)))) hb9
        have hB9 : Below w.heap.size w w9 := ((((Below.refl w.heap.size w).alloc (Nat.le_refl _) (.cells #[.int .i64 0, .int .i64 0, .bool false, .string ⟨#[]⟩] 25)).alloc (by simp) (.cells #[.int .i64 (fld s 0 2), .int .i64 (fld s 2 2), .bool (fld s 6 2 != 0), .string (s.extract 8 s.size)] 25)).drew).trans (hb9.mono (by simp; omega))
        obtain ⟨hc9, hf9⟩ := bcell9 hb9
        clear hb9
        have r0 := hR9.2 0 _ rfl
        have r1 := hR9.2 1 _ rfl
        have r2 := hR9.2 2 _ rfl
        have r3 := hR9.2 3 _ rfl
        clear hR9
        go_wp2
        refine bodyPost_ret (v := .tuple #[.agg #[.int .i64 0, .int .i64 0, .bool false, .string ⟨#[]⟩], .bool false]) ?_ rfl ⟨by rw [HR.out], ?_⟩
        · simp [results, Try.results11, go_sem, r0, r1, r2, r3]
        · go_grown
end Go.Proofs.Ytjdellkdnempkaa
