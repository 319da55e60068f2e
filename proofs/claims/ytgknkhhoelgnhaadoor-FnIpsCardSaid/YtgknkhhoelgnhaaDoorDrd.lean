/-
  The draw of what is read as a datagram.
-/
import Derived.Test.YtgknkhhoelgnhaaDoorDrip
import Derived.Test.YtgknkhhoelgnhaaDoorTurn
import Derived.Test.YtgknkhhoelgnhaaDoorIps4
namespace Go.Proofs.YtgknkhhoelgnhaaDoor
open Go.RowKit Go.PlainAid
/-- bytes lie in a block of this run's own -/
def TxAt (w : World) (g : Nat) (l : List UInt8) : Prop := (∀ j c, l[j]? = some c → w.cell? ⟨g, j, none⟩ = some (.int .u8 (c.toNat : Int))) ∧ (∀ j, j < l.length → w.frozen? ⟨g, j, none⟩ = false) ∧ g < w.heap.size
theorem TxAt.below {w w' : World} {g : Nat} {l : List UInt8} (h : TxAt w g l) (hb : Below w.heap.size w w') : TxAt w' g l :=
  ⟨fun j c hj => (hb.cell (p := ⟨g, j, none⟩) h.2.2).trans (h.1 j c hj), fun j hj => (hb.frozen (p := ⟨g, j, none⟩) h.2.2).trans (h.2.1 j hj), Nat.lt_of_lt_of_le h.2.2 hb.size⟩
theorem TxAt.only {w w' : World} {b g : Nat} {l : List UInt8} (h : TxAt w g l) (hO : Only b w w') (hg : g ≠ b) : TxAt w' g l :=
  ⟨fun j c hj => (hO.cell h.2.2 hg).trans (h.1 j c hj), fun j hj => (World.frozen?_of_block (w := w) (a := ⟨g, j, none⟩) (hO.block g h.2.2 (by simp; exact hg))).trans (h.2.1 j hj), Nat.lt_of_lt_of_le h.2.2 hO.size⟩
theorem TxAt.at {w : World} {g : Nat} {l : List UInt8} (h : TxAt w g l) (j : Nat) (hj : j < l.length) : ∃ c : UInt8, w.cell? ⟨g, j, none⟩ = some (.int .u8 (c.toNat : Int)) := ⟨l[j], h.1 j _ (List.getElem?_eq_getElem hj)⟩
theorem TxAt.put {w : World} {g : Nat} {l : List UInt8} (h : TxAt w g l) (i : Nat) (v : Int) (hi : i < l.length) (h0 : 0 ≤ v) (h1 : v ≤ 255) : TxAt (w.setCell ⟨g, i, none⟩ (.int .u8 v)) g (l.set i (UInt8.ofNat v.toNat)) := by
  have hN : (UInt8.ofNat v.toNat).toNat = v.toNat := by simp [UInt8.toNat_ofNat']; omega
  refine ⟨fun j c hj => ?_, fun j hj => ?_, by simpa using h.2.2⟩
  · rw [List.getElem?_set] at hj
    by_cases e : i = j
    · subst e
      rw [if_pos rfl, if_pos hi] at hj
      cases hj
      rw [hN, show ((v.toNat : Nat) : Int) = v by omega]
      exact World.cell?_setCell_same _ _ _ (h.1 i _ (List.getElem?_eq_getElem hi))
    · rw [if_neg e] at hj
      exact (World.cell?_setCell_other _ _ _ _ (fun k => e (congrArg Addr.off k))).trans (h.1 j c hj)
  · rw [List.length_set] at hj
    simpa using h.2.1 j hj
/-- the same, with what is known of its room -/
theorem wpList_tobytesC {w : World} {ops : Array Oper} {rest : List Oper} {o : Oper} {a : Act} {Q : Exit → Act → World → Prop} (hgd : o.guard = none) (x : Operand)
    (ho : o.op = .convert 9 29 x) (s : ByteArray) (hs : a.eval x = .string s)
    (h : ∀ cap w', s.size ≤ cap → (∀ j c, (bl s)[j]? = some c → w'.cell? ⟨w.heap.size, j, none⟩ = some (.int .u8 (c.toNat : Int))) → (∀ j, j < s.size → w'.frozen? ⟨w.heap.size, j, none⟩ = false) → Below w.heap.size w w' → w.heap.size < w'.heap.size →
      wpList Tryd.prog ops Q rest (a.put o.dst (.slice (some ⟨w.heap.size, 0, none⟩) s.size cap)) w') : wpList Tryd.prog ops Q (o :: rest) a w := by
  refine wpList_plain hgd fun K hK' => ?_
  unfold Oper.wp execOp
  simp [ho, hs, run_bytes_of_string w _ _ _ s Tryd.underlying9 Tryd.underlying29 Tryd.underlying5, Result.andThen]
  have hsz : s.data.size = s.size := rfl
  refine hK' _ _ (h _ _ (grownCap_ge _ _ _ _) ?_ ?_ ?_ ?_)
  · intro j c hj
    have hj2 : j < s.data.size := by
      have := (List.getElem?_eq_some_iff.1 hj).1
      simpa using this
    have e := World.cell?_alloc_mark w.drew (bytesRow s (grownCap w s.size 0 5)) 5 ((bytesRow s (grownCap w s.size 0 5)).size, (bytesRow s (grownCap w s.size 0 5)).size + 1) j
    refine e.trans ?_
    rw [bytesRow_at s _ j hj2]
    have : s.data[j] = c := by
      have h2 := List.getElem?_eq_some_iff.1 hj
      obtain ⟨_, h2⟩ := h2
      simpa using h2
    rw [this]
  · intro j hj
    refine (World.frozen?_alloc_mark w.drew _ _ _ _ j).trans ?_
    have : j < (bytesRow s (grownCap w s.size 0 5)).size := by simp [bytesRow, hsz]; omega
    simp; omega
  · exact ((Below.refl _ w).drew).alloc (Nat.le_refl _) _
  · simp
theorem xor_128 (c : UInt8) : 0 ≤ bits .xor .u8 (c.toNat : Int) 128 ∧ bits .xor .u8 (c.toNat : Int) 128 ≤ 255 := by
  have hc := c.toNat_lt
  have := bits_xor_u8 c.toNat 128 hc (by decide)
  have h2 := Nat.xor_lt_two_pow (n := 8) hc (show 128 < 2 ^ 8 by decide)
  have e : bits .xor .u8 (c.toNat : Int) 128 = ((c.toNat ^^^ 128 : Nat) : Int) := this
  rw [e]
  omega
set_option maxRecDepth 100000 in
set_option maxHeartbeats 12800000 in
theorem d_ReadIp (B : Nat) (C : Option Addr) (len cap : Nat) (w : World) (h : Code w B C len) :
    Calls Tryd.prog 21 #[.slice C len cap] w fun e w' => ∃ t : ByteArray, e = .returned (.string t) ∧ t.size ≤ 70000 ∧ Below w.heap.size w w' := by
  go_enter Tryd.func21, Tryd.ntmps21
  go_wp2_with fail
  refine (r_Open B C len cap _ h).mono ?_
  rintro e u1 ⟨rfl, hR, hB, hs1⟩
  go_wp2_with fail
  refine (r_ip _ C len cap _ hR).mono ?_
  rintro e u2 ⟨p, rfl, hpd, hpo, ho0, ho1, hR1, hO1⟩
  replace hB := hB.trans (hO1.below (Nat.le_refl _) hB.size)
  have hs2 := hO1.size
  replace hR := hR1
  clear hO1 hR1 h
  have hg4 : w.heap.size < u2.heap.size := by omega
  obtain ⟨tos, id, df, mf, off, ttl, pro, src, dst, opts, data⟩ := p
  simp only [ipL] at *
  by_cases h2 : 2000 < data.size
  · skip
    have h2i : (2000 : Int) < (data.size : Int) := by omega
    have hdz : (⟨#[]⟩ : ByteArray).size ≤ 2000 := by decide
    have hTl : (ipBytes ⟨tos, id, df, mf, off, ttl, pro, src, dst, opts, ⟨#[]⟩⟩).length = 20 + opts.size + (⟨#[]⟩ : ByteArray).size := by unfold ipBytes; rw [List.length_append, ipHead_length, bl_length]
    have CB : Hid (∀ v : World, Calls Tryd.prog 45 #[.agg #[.int .i64 tos, .int .i64 id, .bool df, .bool mf, .int .i64 off, .int .i64 ttl, .int .i64 pro, .int .i64 src, .int .i64 dst, .string opts, .string ⟨#[]⟩]] v fun e w' => e = .returned (.string (str (ipBytes ⟨tos, id, df, mf, off, ttl, pro, src, dst, opts, ⟨#[]⟩⟩))) ∧ Below v.heap.size v w') := fun v => s_l3Bytes ⟨tos, id, df, mf, off, ttl, pro, src, dst, opts, ⟨#[]⟩⟩ v ⟨by dsimp only; omega, by dsimp only; omega⟩ (by dsimp only; omega) (by dsimp only; omega)
    generalize ipBytes ⟨tos, id, df, mf, off, ttl, pro, src, dst, opts, ⟨#[]⟩⟩ = T at *
    have hT70 : T.length ≤ 2100 := by omega
    have hT20 : 20 ≤ T.length := by omega
    have hTo : 20 + opts.size ≤ T.length := by omega
    clear hTl
    have hTs := str_size T
    have hP : OI w.heap.size w.heap.size (u2.alloc (.cells #[.int .i64 tos, .int .i64 id, .bool df, .bool mf, .int .i64 off, .int .i64 ttl, .int .i64 pro, .int .i64 src, .int .i64 dst, .string opts, .string ⟨#[]⟩] 32)) u2.heap.size [.int .i64 tos, .int .i64 id, .bool df, .bool mf, .int .i64 off, .int .i64 ttl, .int .i64 pro, .int .i64 src, .int .i64 dst, .string opts, .string ⟨#[]⟩] := OI.new hR.lt hB.size
    replace hR := hR.alloc (.cells #[.int .i64 tos, .int .i64 id, .bool df, .bool mf, .int .i64 off, .int .i64 ttl, .int .i64 pro, .int .i64 src, .int .i64 dst, .string opts, .string ⟨#[]⟩] 32)
    replace hB := hB.alloc hB.size (.cells #[.int .i64 tos, .int .i64 id, .bool df, .bool mf, .int .i64 off, .int .i64 ttl, .int .i64 pro, .int .i64 src, .int .i64 dst, .string opts, .string ⟨#[]⟩] 32)
    go_wp2_with fail
    generalize u2.alloc (.cells #[.int .i64 tos, .int .i64 id, .bool df, .bool mf, .int .i64 off, .int .i64 ttl, .int .i64 pro, .int .i64 src, .int .i64 dst, .string opts, .string ⟨#[]⟩] 32) = u3 at *
    generalize u2.heap.size = g4 at *
    refine (CB.out _).mono ?_
    rintro e u4 ⟨rfl, hb⟩
    replace hP := hP.below hb; replace hR := hR.far hb; replace hB := hB.trans (hb.mono hB.size); clear hb; have hp4 := hP.bx.1
    go_wp2_with (refine wpList_tobytesC rfl _ rfl (str T) rfl ?_; intro cp u5 hcp hcell hfr hb1 hs1; have hT : TxAt u5 u4.heap.size T := ⟨hcell, (fun j hj => hfr j (by rw [hTs]; exact hj)), hs1⟩; replace hP := hP.below hb1; replace hR := hR.far hb1; replace hB := hB.trans (hb1.mono hB.size); clear hcell hfr)
    generalize hgg : u4.heap.size = g at *
    refine (r_below _ C len cap _ _ (by omega) hR).mono ?_
    rintro e u6 ⟨y, rfl, hy0, hy1, hR1, hO1⟩
    replace hP := hP.only hO1; replace hT := hT.only hO1 (by omega); replace hB := hB.trans (hO1.below (Nat.le_refl _) hB.size); replace hR := hR1; have hsz := hO1.size; clear hO1 hR1
    have hy : y = 0 ∨ y = 1 ∨ y = 2 ∨ y = 3 ∨ 3 < y := by omega
    clear hy0 hy1
    rcases hy with rfl | rfl | rfl | rfl | hy
    · skip
      go_wp2_with (refine wpList_text rfl _ rfl g T.length cp T rfl (by first | rfl | simp) (by exact hT.1) ?_)
      refine (r_hurt _ C len cap _ _ (by omega) hR).mono ?_
      rintro e u7 ⟨t, rfl, ht, hR1, hO1⟩
      replace hP := hP.only hO1; replace hT := hT.only hO1 (by omega); replace hB := hB.trans (hO1.below (Nat.le_refl _) hB.size); replace hR := hR1; have hsz := hO1.size; clear hO1 hR1
      go_wp2
      go_ret
      exact ⟨t, rfl, by omega, hB⟩
    · skip
      go_wp2_with fail
      refine (r_below _ C len cap _ _ (by omega) hR).mono ?_
      rintro e u7 ⟨x, rfl, hx0, hx1, hR1, hO1⟩
      replace hP := hP.only hO1; replace hT := hT.only hO1 (by omega); replace hB := hB.trans (hO1.below (Nat.le_refl _) hB.size); replace hR := hR1; have hsz := hO1.size; clear hO1 hR1
      obtain ⟨X, rfl⟩ := Int.eq_ofNat_of_zero_le hx0
      have hXl : X ≤ T.length := by omega
      have hXc : X ≤ cp := by omega
      have hX1 : ((X : Nat) : Int) ≤ (T.length : Int) := by omega
      have hX2 : ((X : Nat) : Int) ≤ (cp : Int) := by omega
      have hTk : ∀ j c, (T.take X)[j]? = some c → u7.cell? ⟨g, j, none⟩ = some (.int .u8 (c.toNat : Int)) := fun j c hj => hT.1 j c (by rw [List.getElem?_take] at hj; split at hj; (· exact hj); (· cases hj))
      have hTk2 : Hid (∀ j c, (T.take X)[j]? = some c → u7.cell? ⟨g, j, none⟩ = some (.int .u8 (c.toNat : Int))) := hTk
      clear hTk
      go_wp2_with (refine wpList_text rfl _ rfl g X cp (T.take X) (by rw [List.length_take]; omega) rfl (by exact hTk2.out) ?_)
      go_ret
      exact ⟨_, rfl, by rw [str_size, List.length_take]; omega, hB⟩
    · skip
      go_wp2_with fail
      refine (r_below _ C len cap _ _ (by omega) hR).mono ?_
      rintro e u7 ⟨x, rfl, hx0, hx1, hR1, hO1⟩
      replace hP := hP.only hO1; replace hT := hT.only hO1 (by omega); replace hB := hB.trans (hO1.below (Nat.le_refl _) hB.size); replace hR := hR1; have hsz := hO1.size; clear hO1 hR1
      have hu : IntKind.u8.wrap x = x := by rw [IntKind.wrap_u8]; omega
      obtain ⟨c0, hc0⟩ := hT.at 0 (by omega)
      have f0 := hT.2.1 0 (by omega)
      have hT2 : Hid (TxAt (u7.setCell ⟨g, 0, none⟩ (.int .u8 x)) g (T.set 0 (UInt8.ofNat x.toNat))) := hT.put 0 x (by omega) (by omega) (by omega)
      replace hB := hB.setCell (p := ⟨g, 0, none⟩) (by show w.heap.size ≤ g; omega) (.int .u8 x)
      clear hT
      go_wp2_with (refine wpList_text rfl _ rfl g T.length cp (T.set 0 (UInt8.ofNat x.toNat)) (by rw [List.length_set]) (by first | rfl | simp) (by exact hT2.out.1) ?_)
      go_ret
      exact ⟨_, rfl, by rw [str_size, List.length_set]; omega, hB⟩
    · skip
      obtain ⟨c6, hc6⟩ := hT.at 6 (by omega)
      have f6 := hT.2.1 6 (by omega); have f10 := hT.2.1 10 (by omega); have f11 := hT.2.1 11 (by omega)
      obtain ⟨c10, hc10⟩ := hT.at 10 (by omega)
      obtain ⟨c11, hc11⟩ := hT.at 11 (by omega)
      obtain ⟨N6, hN6, hN7⟩ : ∃ N6 : Int, bits .xor .u8 (c6.toNat : Int) 128 = N6 ∧ 0 ≤ N6 ∧ N6 ≤ 255 := ⟨_, rfl, xor_128 c6⟩
      have hg4 : ¬ (g = g4) := by omega
      have hg5 : ¬ (g4 = g) := by omega
      have e10 : (6 : Nat) ≠ 10 := by decide
      have l20 : 11 < T.length := by omega
      have l10 : 10 < T.length := by omega
      have l6 : 6 < T.length := by omega
      have i20 : (11 : Int) < (T.length : Int) := by omega
      have i10 : (10 : Int) < (T.length : Int) := by omega
      have i6 : (6 : Int) < (T.length : Int) := by omega
      have hT3 : TxAt (((u6.setCell ⟨g, 6, none⟩ (.int .u8 N6)).setCell ⟨g, 10, none⟩ (.int .u8 0)).setCell ⟨g, 11, none⟩ (.int .u8 0)) g (((T.set 6 (UInt8.ofNat N6.toNat)).set 10 (UInt8.ofNat (0 : Int).toNat)).set 11 (UInt8.ofNat (0 : Int).toNat)) := ((hT.put 6 N6 (by omega) hN7.1 hN7.2).put 10 0 (by rw [List.length_set]; omega) (by decide) (by decide)).put 11 0 (by rw [List.length_set, List.length_set]; omega) (by decide) (by decide)
      have hP3 : OI w.heap.size w.heap.size (((u6.setCell ⟨g, 6, none⟩ (.int .u8 N6)).setCell ⟨g, 10, none⟩ (.int .u8 0)).setCell ⟨g, 11, none⟩ (.int .u8 0)) g4 [.int .i64 tos, .int .i64 id, .bool df, .bool mf, .int .i64 off, .int .i64 ttl, .int .i64 pro, .int .i64 src, .int .i64 dst, .string opts, .string ⟨#[]⟩] := ((hP.beside (c := g) (j := 6) hg4 _).beside (c := g) (j := 10) hg4 _).beside (c := g) (j := 11) hg4 _
      have hB3 : Below w.heap.size w (((u6.setCell ⟨g, 6, none⟩ (.int .u8 N6)).setCell ⟨g, 10, none⟩ (.int .u8 0)).setCell ⟨g, 11, none⟩ (.int .u8 0)) := ((hB.setCell (p := ⟨g, 6, none⟩) (by show w.heap.size ≤ g; omega) _).setCell (p := ⟨g, 10, none⟩) (by show w.heap.size ≤ g; omega) _).setCell (p := ⟨g, 11, none⟩) (by show w.heap.size ≤ g; omega) _
      obtain ⟨T3, hT3e⟩ : ∃ T3, T3 = (((T.set 6 (UInt8.ofNat N6.toNat)).set 10 (UInt8.ofNat (0 : Int).toNat)).set 11 (UInt8.ofNat (0 : Int).toNat)) := ⟨_, rfl⟩
      have hT3l : T3.length = T.length := by rw [hT3e]; simp only [List.length_set]
      rw [← hT3e] at hT3
      clear hT3e
      obtain ⟨h30, h31, h32⟩ := hT3
      have hT3 : Hid (TxAt (((u6.setCell ⟨g, 6, none⟩ (.int .u8 N6)).setCell ⟨g, 10, none⟩ (.int .u8 0)).setCell ⟨g, 11, none⟩ (.int .u8 0)) g T3) := ⟨h30, h31, h32⟩
      clear h30 h31 h32 hT
      have y0 := hP3.bx.2 0 _ rfl; have y1 := hP3.bx.2 1 _ rfl; have y2 := hP3.bx.2 2 _ rfl; have y3 := hP3.bx.2 3 _ rfl; have y4 := hP3.bx.2 4 _ rfl; have y5 := hP3.bx.2 5 _ rfl; have y6 := hP3.bx.2 6 _ rfl; have y7 := hP3.bx.2 7 _ rfl; have y8 := hP3.bx.2 8 _ rfl; have y9 := hP3.bx.2 9 _ rfl; have y10 := hP3.bx.2 10 _ rfl
      clear hP
      have CHd : Hid (∀ u : World, Calls Tryd.prog 57 #[.agg #[.int .i64 tos, .int .i64 id, .bool df, .bool mf, .int .i64 off, .int .i64 ttl, .int .i64 pro, .int .i64 src, .int .i64 dst, .string opts, .string ⟨#[]⟩]] u fun e w' => e = .returned (.int .i64 (20 + (opts.size : Int))) ∧ Below u.heap.size u w') := fun u => (s_Head ⟨tos, id, df, mf, off, ttl, pro, src, dst, opts, ⟨#[]⟩⟩ u (by dsimp only; omega)).mono fun _ _ ⟨he, hw⟩ => ⟨he, hw ▸ (Below.refl _ _).alloc (Nat.le_refl _) _⟩
      go_wp2_with fail
      refine (CHd.out _).mono ?_
      rintro e u7 ⟨rfl, hb⟩
      have hT7 : TxAt u7 g T3 := hT3.out.below hb
      replace hB := hB3.trans (hb.mono hB3.size)
      clear hb hB3 hP3 hT3 CHd y0 y1 y2 y3 y4 y5 y6 y7 y8 y9 y10
      have hTk2 : Hid (∀ j c, (T3.take (20 + opts.size))[j]? = some c → u7.cell? ⟨g, j, none⟩ = some (.int .u8 (c.toNat : Int))) := fun j c hj => hT7.1 j c (by rw [List.getElem?_take] at hj; split at hj; (· exact hj); (· cases hj))
      have hX0 : (0 : Int) ≤ 20 + (opts.size : Int) := by omega
      have hX1 : 20 + (opts.size : Int) ≤ (T.length : Int) := by omega
      have hX2 : 20 + (opts.size : Int) ≤ (cp : Int) := by omega
      have hX3 : (20 + (opts.size : Int)).toNat = 20 + opts.size := by omega
      obtain ⟨sm, hsm, hsm0, hsm1⟩ : ∃ sm : Int, sumOf (T3.take (20 + opts.size)) = sm ∧ 0 ≤ sm ∧ sm ≤ 65535 := ⟨_, rfl, sumOf_bd _⟩
      have CSm : Hid (∀ u : World, Calls Tryd.prog 56 #[.string (str (T3.take (20 + opts.size)))] u fun e w' => e = .returned (.int .i64 sm) ∧ w' = u) := fun u => hsm ▸ s_SumOf _ u (by rw [str_size, List.length_take]; omega)
      have g10 := hT7.2.1 10 (by omega); have g11 := hT7.2.1 11 (by omega)
      obtain ⟨c10, hc10⟩ := hT7.at 10 (by omega)
      obtain ⟨c11, hc11⟩ := hT7.at 11 (by omega)
      go_wp2_with (refine wpList_text rfl _ rfl g (20 + opts.size) cp (T3.take (20 + opts.size)) (by rw [List.length_take]; omega) rfl (by exact hTk2.out) ?_)
      refine (CSm.out _).mono ?_
      rintro e wq ⟨rfl, hq⟩
      rw [hq]
      clear hq wq hTk2 CSm hsm
      have v0 : IntKind.u8.wrap (sm / 256) = sm / 256 % 256 := by rw [IntKind.wrap_u8]
      have v1 : IntKind.u8.wrap sm = sm % 256 := by rw [IntKind.wrap_u8]
      have hT9 : Hid (TxAt ((u7.setCell ⟨g, 10, none⟩ (.int .u8 (sm / 256 % 256))).setCell ⟨g, 11, none⟩ (.int .u8 (sm % 256))) g ((T3.set 10 (UInt8.ofNat (sm / 256 % 256).toNat)).set 11 (UInt8.ofNat (sm % 256).toNat))) := (hT7.put 10 _ (by omega) (by omega) (by omega)).put 11 _ (by rw [List.length_set]; omega) (by omega) (by omega)
      replace hB := (hB.setCell (p := ⟨g, 10, none⟩) (by show w.heap.size ≤ g; omega) (.int .u8 (sm / 256 % 256))).setCell (p := ⟨g, 11, none⟩) (by show w.heap.size ≤ g; omega) (.int .u8 (sm % 256))
      clear hT7
      go_wp2_with (refine wpList_text rfl _ rfl g T.length cp ((T3.set 10 (UInt8.ofNat (sm / 256 % 256).toNat)).set 11 (UInt8.ofNat (sm % 256).toNat)) (by simp only [List.length_set]; omega) (by first | rfl | simp) (by exact hT9.out.1) ?_)
      go_ret
      exact ⟨_, rfl, by rw [str_size]; simp only [List.length_set]; omega, hB⟩
    · skip
      have k0 : (y == 0) = false := by simp; omega
      have k1 : (y == 1) = false := by simp; omega
      have k2 : (y == 2) = false := by simp; omega
      have k3 : (y == 3) = false := by simp; omega
      go_wp2_with (refine wpList_text rfl _ rfl g T.length cp T rfl (by first | rfl | simp) (by exact hT.1) ?_)
      go_ret
      exact ⟨_, rfl, by omega, hB⟩
  · skip
    have h2i : ¬ (2000 : Int) < (data.size : Int) := by omega
    have hdz : (data : ByteArray).size ≤ 2000 := by omega
    have hTl : (ipBytes ⟨tos, id, df, mf, off, ttl, pro, src, dst, opts, data⟩).length = 20 + opts.size + (data : ByteArray).size := by unfold ipBytes; rw [List.length_append, ipHead_length, bl_length]
    have CB : Hid (∀ v : World, Calls Tryd.prog 45 #[.agg #[.int .i64 tos, .int .i64 id, .bool df, .bool mf, .int .i64 off, .int .i64 ttl, .int .i64 pro, .int .i64 src, .int .i64 dst, .string opts, .string data]] v fun e w' => e = .returned (.string (str (ipBytes ⟨tos, id, df, mf, off, ttl, pro, src, dst, opts, data⟩))) ∧ Below v.heap.size v w') := fun v => s_l3Bytes ⟨tos, id, df, mf, off, ttl, pro, src, dst, opts, data⟩ v ⟨by dsimp only; omega, by dsimp only; omega⟩ (by dsimp only; omega) (by dsimp only; omega)
    generalize ipBytes ⟨tos, id, df, mf, off, ttl, pro, src, dst, opts, data⟩ = T at *
    have hT70 : T.length ≤ 2100 := by omega
    have hT20 : 20 ≤ T.length := by omega
    have hTo : 20 + opts.size ≤ T.length := by omega
    clear hTl
    have hTs := str_size T
    have hP : OI w.heap.size w.heap.size (u2.alloc (.cells #[.int .i64 tos, .int .i64 id, .bool df, .bool mf, .int .i64 off, .int .i64 ttl, .int .i64 pro, .int .i64 src, .int .i64 dst, .string opts, .string data] 32)) u2.heap.size [.int .i64 tos, .int .i64 id, .bool df, .bool mf, .int .i64 off, .int .i64 ttl, .int .i64 pro, .int .i64 src, .int .i64 dst, .string opts, .string data] := OI.new hR.lt hB.size
    replace hR := hR.alloc (.cells #[.int .i64 tos, .int .i64 id, .bool df, .bool mf, .int .i64 off, .int .i64 ttl, .int .i64 pro, .int .i64 src, .int .i64 dst, .string opts, .string data] 32)
    replace hB := hB.alloc hB.size (.cells #[.int .i64 tos, .int .i64 id, .bool df, .bool mf, .int .i64 off, .int .i64 ttl, .int .i64 pro, .int .i64 src, .int .i64 dst, .string opts, .string data] 32)
    go_wp2_with fail
    generalize u2.alloc (.cells #[.int .i64 tos, .int .i64 id, .bool df, .bool mf, .int .i64 off, .int .i64 ttl, .int .i64 pro, .int .i64 src, .int .i64 dst, .string opts, .string data] 32) = u3 at *
    generalize u2.heap.size = g4 at *
    refine (CB.out _).mono ?_
    rintro e u4 ⟨rfl, hb⟩
    replace hP := hP.below hb; replace hR := hR.far hb; replace hB := hB.trans (hb.mono hB.size); clear hb; have hp4 := hP.bx.1
    go_wp2_with (refine wpList_tobytesC rfl _ rfl (str T) rfl ?_; intro cp u5 hcp hcell hfr hb1 hs1; have hT : TxAt u5 u4.heap.size T := ⟨hcell, (fun j hj => hfr j (by rw [hTs]; exact hj)), hs1⟩; replace hP := hP.below hb1; replace hR := hR.far hb1; replace hB := hB.trans (hb1.mono hB.size); clear hcell hfr)
    generalize hgg : u4.heap.size = g at *
    refine (r_below _ C len cap _ _ (by omega) hR).mono ?_
    rintro e u6 ⟨y, rfl, hy0, hy1, hR1, hO1⟩
    replace hP := hP.only hO1; replace hT := hT.only hO1 (by omega); replace hB := hB.trans (hO1.below (Nat.le_refl _) hB.size); replace hR := hR1; have hsz := hO1.size; clear hO1 hR1
    have hy : y = 0 ∨ y = 1 ∨ y = 2 ∨ y = 3 ∨ 3 < y := by omega
    clear hy0 hy1
    rcases hy with rfl | rfl | rfl | rfl | hy
    · skip
      go_wp2_with (refine wpList_text rfl _ rfl g T.length cp T rfl (by first | rfl | simp) (by exact hT.1) ?_)
      refine (r_hurt _ C len cap _ _ (by omega) hR).mono ?_
      rintro e u7 ⟨t, rfl, ht, hR1, hO1⟩
      replace hP := hP.only hO1; replace hT := hT.only hO1 (by omega); replace hB := hB.trans (hO1.below (Nat.le_refl _) hB.size); replace hR := hR1; have hsz := hO1.size; clear hO1 hR1
      go_wp2
      go_ret
      exact ⟨t, rfl, by omega, hB⟩
    · skip
      go_wp2_with fail
      refine (r_below _ C len cap _ _ (by omega) hR).mono ?_
      rintro e u7 ⟨x, rfl, hx0, hx1, hR1, hO1⟩
      replace hP := hP.only hO1; replace hT := hT.only hO1 (by omega); replace hB := hB.trans (hO1.below (Nat.le_refl _) hB.size); replace hR := hR1; have hsz := hO1.size; clear hO1 hR1
      obtain ⟨X, rfl⟩ := Int.eq_ofNat_of_zero_le hx0
      have hXl : X ≤ T.length := by omega
      have hXc : X ≤ cp := by omega
      have hX1 : ((X : Nat) : Int) ≤ (T.length : Int) := by omega
      have hX2 : ((X : Nat) : Int) ≤ (cp : Int) := by omega
      have hTk : ∀ j c, (T.take X)[j]? = some c → u7.cell? ⟨g, j, none⟩ = some (.int .u8 (c.toNat : Int)) := fun j c hj => hT.1 j c (by rw [List.getElem?_take] at hj; split at hj; (· exact hj); (· cases hj))
      have hTk2 : Hid (∀ j c, (T.take X)[j]? = some c → u7.cell? ⟨g, j, none⟩ = some (.int .u8 (c.toNat : Int))) := hTk
      clear hTk
      go_wp2_with (refine wpList_text rfl _ rfl g X cp (T.take X) (by rw [List.length_take]; omega) rfl (by exact hTk2.out) ?_)
      go_ret
      exact ⟨_, rfl, by rw [str_size, List.length_take]; omega, hB⟩
    · skip
      go_wp2_with fail
      refine (r_below _ C len cap _ _ (by omega) hR).mono ?_
      rintro e u7 ⟨x, rfl, hx0, hx1, hR1, hO1⟩
      replace hP := hP.only hO1; replace hT := hT.only hO1 (by omega); replace hB := hB.trans (hO1.below (Nat.le_refl _) hB.size); replace hR := hR1; have hsz := hO1.size; clear hO1 hR1
      have hu : IntKind.u8.wrap x = x := by rw [IntKind.wrap_u8]; omega
      obtain ⟨c0, hc0⟩ := hT.at 0 (by omega)
      have f0 := hT.2.1 0 (by omega)
      have hT2 : Hid (TxAt (u7.setCell ⟨g, 0, none⟩ (.int .u8 x)) g (T.set 0 (UInt8.ofNat x.toNat))) := hT.put 0 x (by omega) (by omega) (by omega)
      replace hB := hB.setCell (p := ⟨g, 0, none⟩) (by show w.heap.size ≤ g; omega) (.int .u8 x)
      clear hT
      go_wp2_with (refine wpList_text rfl _ rfl g T.length cp (T.set 0 (UInt8.ofNat x.toNat)) (by rw [List.length_set]) (by first | rfl | simp) (by exact hT2.out.1) ?_)
      go_ret
      exact ⟨_, rfl, by rw [str_size, List.length_set]; omega, hB⟩
    · skip
      obtain ⟨c6, hc6⟩ := hT.at 6 (by omega)
      have f6 := hT.2.1 6 (by omega); have f10 := hT.2.1 10 (by omega); have f11 := hT.2.1 11 (by omega)
      obtain ⟨c10, hc10⟩ := hT.at 10 (by omega)
      obtain ⟨c11, hc11⟩ := hT.at 11 (by omega)
      obtain ⟨N6, hN6, hN7⟩ : ∃ N6 : Int, bits .xor .u8 (c6.toNat : Int) 128 = N6 ∧ 0 ≤ N6 ∧ N6 ≤ 255 := ⟨_, rfl, xor_128 c6⟩
      have hg4 : ¬ (g = g4) := by omega
      have hg5 : ¬ (g4 = g) := by omega
      have e10 : (6 : Nat) ≠ 10 := by decide
      have l20 : 11 < T.length := by omega
      have l10 : 10 < T.length := by omega
      have l6 : 6 < T.length := by omega
      have i20 : (11 : Int) < (T.length : Int) := by omega
      have i10 : (10 : Int) < (T.length : Int) := by omega
      have i6 : (6 : Int) < (T.length : Int) := by omega
      have hT3 : TxAt (((u6.setCell ⟨g, 6, none⟩ (.int .u8 N6)).setCell ⟨g, 10, none⟩ (.int .u8 0)).setCell ⟨g, 11, none⟩ (.int .u8 0)) g (((T.set 6 (UInt8.ofNat N6.toNat)).set 10 (UInt8.ofNat (0 : Int).toNat)).set 11 (UInt8.ofNat (0 : Int).toNat)) := ((hT.put 6 N6 (by omega) hN7.1 hN7.2).put 10 0 (by rw [List.length_set]; omega) (by decide) (by decide)).put 11 0 (by rw [List.length_set, List.length_set]; omega) (by decide) (by decide)
      have hP3 : OI w.heap.size w.heap.size (((u6.setCell ⟨g, 6, none⟩ (.int .u8 N6)).setCell ⟨g, 10, none⟩ (.int .u8 0)).setCell ⟨g, 11, none⟩ (.int .u8 0)) g4 [.int .i64 tos, .int .i64 id, .bool df, .bool mf, .int .i64 off, .int .i64 ttl, .int .i64 pro, .int .i64 src, .int .i64 dst, .string opts, .string data] := ((hP.beside (c := g) (j := 6) hg4 _).beside (c := g) (j := 10) hg4 _).beside (c := g) (j := 11) hg4 _
      have hB3 : Below w.heap.size w (((u6.setCell ⟨g, 6, none⟩ (.int .u8 N6)).setCell ⟨g, 10, none⟩ (.int .u8 0)).setCell ⟨g, 11, none⟩ (.int .u8 0)) := ((hB.setCell (p := ⟨g, 6, none⟩) (by show w.heap.size ≤ g; omega) _).setCell (p := ⟨g, 10, none⟩) (by show w.heap.size ≤ g; omega) _).setCell (p := ⟨g, 11, none⟩) (by show w.heap.size ≤ g; omega) _
      obtain ⟨T3, hT3e⟩ : ∃ T3, T3 = (((T.set 6 (UInt8.ofNat N6.toNat)).set 10 (UInt8.ofNat (0 : Int).toNat)).set 11 (UInt8.ofNat (0 : Int).toNat)) := ⟨_, rfl⟩
      have hT3l : T3.length = T.length := by rw [hT3e]; simp only [List.length_set]
      rw [← hT3e] at hT3
      clear hT3e
      obtain ⟨h30, h31, h32⟩ := hT3
      have hT3 : Hid (TxAt (((u6.setCell ⟨g, 6, none⟩ (.int .u8 N6)).setCell ⟨g, 10, none⟩ (.int .u8 0)).setCell ⟨g, 11, none⟩ (.int .u8 0)) g T3) := ⟨h30, h31, h32⟩
      clear h30 h31 h32 hT
      have y0 := hP3.bx.2 0 _ rfl; have y1 := hP3.bx.2 1 _ rfl; have y2 := hP3.bx.2 2 _ rfl; have y3 := hP3.bx.2 3 _ rfl; have y4 := hP3.bx.2 4 _ rfl; have y5 := hP3.bx.2 5 _ rfl; have y6 := hP3.bx.2 6 _ rfl; have y7 := hP3.bx.2 7 _ rfl; have y8 := hP3.bx.2 8 _ rfl; have y9 := hP3.bx.2 9 _ rfl; have y10 := hP3.bx.2 10 _ rfl
      clear hP
      have CHd : Hid (∀ u : World, Calls Tryd.prog 57 #[.agg #[.int .i64 tos, .int .i64 id, .bool df, .bool mf, .int .i64 off, .int .i64 ttl, .int .i64 pro, .int .i64 src, .int .i64 dst, .string opts, .string data]] u fun e w' => e = .returned (.int .i64 (20 + (opts.size : Int))) ∧ Below u.heap.size u w') := fun u => (s_Head ⟨tos, id, df, mf, off, ttl, pro, src, dst, opts, data⟩ u (by dsimp only; omega)).mono fun _ _ ⟨he, hw⟩ => ⟨he, hw ▸ (Below.refl _ _).alloc (Nat.le_refl _) _⟩
      go_wp2_with fail
      refine (CHd.out _).mono ?_
      rintro e u7 ⟨rfl, hb⟩
      have hT7 : TxAt u7 g T3 := hT3.out.below hb
      replace hB := hB3.trans (hb.mono hB3.size)
      clear hb hB3 hP3 hT3 CHd y0 y1 y2 y3 y4 y5 y6 y7 y8 y9 y10
      have hTk2 : Hid (∀ j c, (T3.take (20 + opts.size))[j]? = some c → u7.cell? ⟨g, j, none⟩ = some (.int .u8 (c.toNat : Int))) := fun j c hj => hT7.1 j c (by rw [List.getElem?_take] at hj; split at hj; (· exact hj); (· cases hj))
      have hX0 : (0 : Int) ≤ 20 + (opts.size : Int) := by omega
      have hX1 : 20 + (opts.size : Int) ≤ (T.length : Int) := by omega
      have hX2 : 20 + (opts.size : Int) ≤ (cp : Int) := by omega
      have hX3 : (20 + (opts.size : Int)).toNat = 20 + opts.size := by omega
      obtain ⟨sm, hsm, hsm0, hsm1⟩ : ∃ sm : Int, sumOf (T3.take (20 + opts.size)) = sm ∧ 0 ≤ sm ∧ sm ≤ 65535 := ⟨_, rfl, sumOf_bd _⟩
      have CSm : Hid (∀ u : World, Calls Tryd.prog 56 #[.string (str (T3.take (20 + opts.size)))] u fun e w' => e = .returned (.int .i64 sm) ∧ w' = u) := fun u => hsm ▸ s_SumOf _ u (by rw [str_size, List.length_take]; omega)
      have g10 := hT7.2.1 10 (by omega); have g11 := hT7.2.1 11 (by omega)
      obtain ⟨c10, hc10⟩ := hT7.at 10 (by omega)
      obtain ⟨c11, hc11⟩ := hT7.at 11 (by omega)
      go_wp2_with (refine wpList_text rfl _ rfl g (20 + opts.size) cp (T3.take (20 + opts.size)) (by rw [List.length_take]; omega) rfl (by exact hTk2.out) ?_)
      refine (CSm.out _).mono ?_
      rintro e wq ⟨rfl, hq⟩
      rw [hq]
      clear hq wq hTk2 CSm hsm
      have v0 : IntKind.u8.wrap (sm / 256) = sm / 256 % 256 := by rw [IntKind.wrap_u8]
      have v1 : IntKind.u8.wrap sm = sm % 256 := by rw [IntKind.wrap_u8]
      have hT9 : Hid (TxAt ((u7.setCell ⟨g, 10, none⟩ (.int .u8 (sm / 256 % 256))).setCell ⟨g, 11, none⟩ (.int .u8 (sm % 256))) g ((T3.set 10 (UInt8.ofNat (sm / 256 % 256).toNat)).set 11 (UInt8.ofNat (sm % 256).toNat))) := (hT7.put 10 _ (by omega) (by omega) (by omega)).put 11 _ (by rw [List.length_set]; omega) (by omega) (by omega)
      replace hB := (hB.setCell (p := ⟨g, 10, none⟩) (by show w.heap.size ≤ g; omega) (.int .u8 (sm / 256 % 256))).setCell (p := ⟨g, 11, none⟩) (by show w.heap.size ≤ g; omega) (.int .u8 (sm % 256))
      clear hT7
      go_wp2_with (refine wpList_text rfl _ rfl g T.length cp ((T3.set 10 (UInt8.ofNat (sm / 256 % 256).toNat)).set 11 (UInt8.ofNat (sm % 256).toNat)) (by simp only [List.length_set]; omega) (by first | rfl | simp) (by exact hT9.out.1) ?_)
      go_ret
      exact ⟨_, rfl, by rw [str_size]; simp only [List.length_set]; omega, hB⟩
    · skip
      have k0 : (y == 0) = false := by simp; omega
      have k1 : (y == 1) = false := by simp; omega
      have k2 : (y == 2) = false := by simp; omega
      have k3 : (y == 3) = false := by simp; omega
      go_wp2_with (refine wpList_text rfl _ rfl g T.length cp T rfl (by first | rfl | simp) (by exact hT.1) ?_)
      go_ret
      exact ⟨_, rfl, by omega, hB⟩
set_option maxRecDepth 100000 in
theorem d_Hopped (B : Nat) (C : Option Addr) (len cap : Nat) (w : World) (h : Code w B C len) :
    Calls Tryd.prog 30 #[.slice C len cap] w fun e w' => ∃ t : ByteArray, e = .returned (.string t) ∧ t.size ≤ 70000 ∧ Below w.heap.size w w' := by
  go_enter Tryd.func30, Tryd.ntmps30
  go_wp2_with fail
  refine (d_ReadIp B C len cap _ h).mono ?_
  rintro e w1 ⟨t, rfl, ht, hb⟩
  go_wp2
  go_ret
  exact ⟨t, rfl, ht, hb⟩
end Go.Proofs.YtgknkhhoelgnhaaDoor
