/-
  Frames with their sums: the program and the model; the exact law.
-/
import Derived.Test.YteflhnmoceppgaaDoorCrc2
import Derived.Test.YteflhnmoceppgaaDoorWalks2
import Derived.Test.YteflhnmoceppgaaDoorRinv
namespace Go.Proofs.YteflhnmoceppgaaDoor
open Go.RowKit Go.PlainAid
/-- a frame of these bytes -/
def frOf (l : List UInt8) : List UInt8 := if 100000 < l.length then [] else be 4 (l.length : Int) ++ le4 (crcOf l) ++ l
theorem be4_eq (n : Nat) : be 4 (n : Int) = [UInt8.ofNat (((n : Int) / 16777216) % 256).toNat, UInt8.ofNat (((n : Int) / 65536) % 256).toNat, UInt8.ofNat (((n : Int) / 256) % 256).toNat, UInt8.ofNat ((n : Int) % 256).toNat] := by
  simp only [be, List.nil_append, List.cons_append]
  rw [show (n : Int) / 256 / 256 / 256 = (n : Int) / 16777216 by omega, show (n : Int) / 256 / 256 = (n : Int) / 65536 by omega]
theorem u8_toNat (x : Int) : ((UInt8.ofNat (x % 256).toNat).toNat : Int) = x % 256 := by
  have : (UInt8.ofNat (x % 256).toNat).toNat = (x % 256).toNat := by simp [UInt8.toNat_ofNat']; omega
  rw [this]; omega
theorem be4_at (n j : Nat) (x : Int) (h : j < 4) (he : [((n : Int) / 16777216) % 256, ((n : Int) / 65536) % 256, ((n : Int) / 256) % 256, (n : Int) % 256][j]? = some x) : x = (((be 4 (n : Int))[j]'(by rw [be_length]; exact h)).toNat : Int) := by
  have hj : j = 0 ∨ j = 1 ∨ j = 2 ∨ j = 3 := by omega
  have e := be4_eq n
  rcases hj with rfl | rfl | rfl | rfl
  all_goals
    simp only [List.getElem?_cons_zero, List.getElem?_cons_succ, Option.some.injEq] at he
    subst he
    simp only [e, List.getElem_cons_zero, List.getElem_cons_succ, u8_toNat]
theorem be4_0 (n : Nat) (h : n ≤ 100000) : (n : Int) / 16777216 = (((be 4 (n : Int))[0]'(by rw [be_length]; decide)).toNat : Int) := by rw [← be4_at n 0 _ (by decide) rfl]; omega
theorem be4_1 (n : Nat) (h : n ≤ 100000) : (n : Int) / 65536 = (((be 4 (n : Int))[1]'(by rw [be_length]; decide)).toNat : Int) := by rw [← be4_at n 1 _ (by decide) rfl]; omega
theorem be4_2 (n : Nat) : (n : Int) / 256 % 256 = (((be 4 (n : Int))[2]'(by rw [be_length]; decide)).toNat : Int) := be4_at n 2 _ (by decide) rfl
theorem be4_3 (n : Nat) : (n : Int) % 256 = (((be 4 (n : Int))[3]'(by rw [be_length]; decide)).toNat : Int) := be4_at n 3 _ (by decide) rfl
theorem str_conv (w : World) (g : Nat) (l : List UInt8) (hl : l.length = 4) (hc : ∀ j c, l[j]? = some c → w.cell? ⟨g, j, none⟩ = some (.int .u8 (c.toNat : Int))) : (convert 22 9 (.slice (some ⟨g, 0, none⟩) 4 4)).run Tryd.prog w = .ok (.string (str l)) w := by
  have e : ∀ j, (⟨g, 0, none⟩ : Addr).add j = ⟨g, j, none⟩ := fun j => by unfold Addr.add; split <;> simp_all
  have hr := run_convert_bytes_back (P := Tryd.prog) w 22 9 5 ⟨g, 0, none⟩ 4 l Tryd.underlying22 Tryd.underlying5 Tryd.underlying9 (fun j hj => by rw [e]; exact hc j _ (List.getElem?_eq_getElem hj))
  rw [hl] at hr
  exact hr
set_option maxRecDepth 100000 in
set_option maxHeartbeats 1600000 in
theorem i_FrameOf (s : ByteArray) (w : World) (hs : s.size ≤ 1099511627776) (hT : CrcTab w) :
    Calls Tryd.prog 9 #[.string s] w fun e w' => e = .returned (.string (str (frOf (bl s)))) ∧ Below w.heap.size w w' := by
  by_cases hn : 100000 < s.size
  · have HV : Hid (frOf (bl s) = []) := by show _ = _; unfold frOf; rw [if_pos (by rw [bl_length]; exact hn)]
    have hni : (100000 : Int) < (s.size : Int) := by omega
    go_enter Tryd.func9, Tryd.ntmps9
    go_wp2
    go_ret
    exact ⟨by rw [HV.out]; rfl, Below.refl _ _⟩
  · have HV : Hid (str (frOf (bl s)) = str (be 4 (s.size : Int)) ++ str (le4 (crcOf (bl s))) ++ s) := by
      show _ = _
      unfold frOf; rw [if_neg (by rw [bl_length]; exact hn), bl_length, ← str_app, ← str_app, str_bl]
    have hni : ¬ (100000 : Int) < (s.size : Int) := by omega
    have CB : Hid (∀ u : World, Calls Tryd.prog 21 #[.int .i64 (s.size : Int), .int .i64 4] u fun e w' => e = .returned (.string (str (be 4 (s.size : Int)))) ∧ Below u.heap.size u w') := fun u => by
      have := i_BytesOf (s.size : Int) 4 u (by omega)
      rw [okB_of (by decide) (by decide) (by omega) (by simp only [Int.reduceToNat, Int.reducePow]; omega)] at this
      exact this
    have CC : Hid (∀ u : World, Below w.heap.size w u → Calls Tryd.prog 23 #[.string s] u fun e w' => e = .returned (.int .u32 (crcOf (bl s) : Nat)) ∧ w' = u) := fun u hb => i_crcOf s u hs (hT.below hb)
    have CL : Hid (∀ u : World, Calls Tryd.prog 22 #[.int .u32 (crcOf (bl s) : Nat)] u fun e w' => e = .returned (.string (str (le4 (crcOf (bl s))))) ∧ Below u.heap.size u w') := fun u => i_lowestFirst _ u (crcOf_lt _)
    have z1 : (str (be 4 (s.size : Int))).size = 4 := by rw [str_size, be_length]
    have z2 : (str (le4 (crcOf (bl s)))).size = 4 := rfl
    have z3 : (be 4 (s.size : Int)).length = 4 := be_length 4 _
    have z4 : (le4 (crcOf (bl s))).length = 4 := rfl
    generalize le4 (crcOf (bl s)) = lc at *
    generalize be 4 (s.size : Int) = lb at *
    generalize crcOf (bl s) = cr at *
    clear hT
    go_enter Tryd.func9, Tryd.ntmps9
    go_wp2_with fail
    refine (CB.out _).mono ?_
    rintro e w1 ⟨rfl, hB⟩
    go_wp2_with fail
    refine (CC.out _ hB).mono ?_
    rintro e wq ⟨rfl, hq⟩
    rw [hq]
    clear hq wq
    go_wp2_with fail
    refine (CL.out _).mono ?_
    rintro e w2 ⟨rfl, hb⟩
    go_wp2
    go_ret
    exact ⟨by rw [HV.out]; rfl, hB.trans (hb.mono hB.size)⟩
/-- what each operation leaves -/
def foF (s : ByteArray) : Nat → Value → World → Prop
  | 0, x, _ => x = .int .i64 (s.size : Int)
  | 1, x, _ => x = .int .i64 ((s.size : Int) / 16777216)
  | 2, x, _ => x = .int .u8 ((s.size : Int) / 16777216)
  | 3, x, _ => x = .int .i64 (s.size : Int)
  | 4, x, _ => x = .int .i64 ((s.size : Int) / 65536)
  | 5, x, _ => x = .int .u8 ((s.size : Int) / 65536)
  | 6, x, _ => x = .int .i64 (s.size : Int)
  | 7, x, _ => x = .int .i64 ((s.size : Int) / 256)
  | 8, x, _ => x = .int .u8 ((s.size : Int) / 256 % 256)
  | 9, x, _ => x = .int .i64 (s.size : Int)
  | 10, x, _ => x = .int .u8 ((s.size : Int) % 256)
  | 11, x, w => ∃ g, x = .slice (some ⟨g, 0, none⟩) 4 4 ∧ g < w.heap.size ∧ ∀ j c, (be 4 (s.size : Int))[j]? = some c → w.cell? ⟨g, j, none⟩ = some (.int .u8 (c.toNat : Int))
  | 12, x, _ => x = .string (str (be 4 (s.size : Int)))
  | 13, x, _ => x = .string s
  | 14, x, _ => x = .string (str (le4 (crcOf (bl s))))
  | 15, x, _ => x = .string (str (be 4 (s.size : Int)) ++ str (le4 (crcOf (bl s))))
  | 16, x, _ => x = .string s
  | 17, x, _ => x = .string (str (be 4 (s.size : Int)) ++ str (le4 (crcOf (bl s))) ++ s)
  | _ + 18, _, _ => True
theorem foF_same {s : ByteArray} {w w' : World} (hb : Below w.heap.size w w') : ∀ (i : Nat) (x : Value), foF s i x w → foF s i x w'
  | 0, _, h => h
  | 1, _, h => h
  | 2, _, h => h
  | 3, _, h => h
  | 4, _, h => h
  | 5, _, h => h
  | 6, _, h => h
  | 7, _, h => h
  | 8, _, h => h
  | 9, _, h => h
  | 10, _, h => h
  | 11, _, ⟨g, e, hg, h⟩ => ⟨g, e, Nat.lt_of_lt_of_le hg hb.size, fun j c hj => (hb.cell (p := ⟨g, j, none⟩) hg).trans (h j c hj)⟩
  | 12, _, h => h
  | 13, _, h => h
  | 14, _, h => h
  | 15, _, h => h
  | 16, _, h => h
  | 17, _, h => h
  | _ + 18, _, _ => trivial
set_option maxRecDepth 100000 in
set_option maxHeartbeats 6400000 in
theorem s_FrameOf (s : ByteArray) (w : World) (hs : s.size ≤ 1099511627776) :
    Calls Tryd.prog 13 #[.string s] w fun e w' => e = .returned (.string (str (frOf (bl s)))) ∧ Below w.heap.size w w' := by
  by_cases hn : 100000 < s.size
  · have HV : Hid (frOf (bl s) = []) := by show _ = _; unfold frOf; rw [if_pos (by rw [bl_length]; exact hn)]
    have hni : (100000 : Int) < (s.size : Int) := by omega
    go_enter Tryd.func13, Tryd.ntmps13
    go_wp2
    go_ret
    exact ⟨by rw [HV.out]; rfl, Below.refl _ _⟩
  · have HV : Hid (str (frOf (bl s)) = str (be 4 (s.size : Int)) ++ str (le4 (crcOf (bl s))) ++ s) := by
      show _ = _
      unfold frOf; rw [if_neg (by rw [bl_length]; exact hn), bl_length, ← str_app, ← str_app, str_bl]
    replace hn : s.size ≤ 100000 := by omega
    have hni : ¬ (100000 : Int) < (s.size : Int) := by omega
    have CL : Hid (∀ u : World, Calls Tryd.prog 20 #[.string s] u fun e w' => e = .returned (.string (str (le4 (crcOf (bl s))))) ∧ Below u.heap.size u w') := fun u => s_l12Sum s u hs
    go_enter Tryd.func13, Tryd.ntmps13
    go_wp2_with fail
    refine wp_region_inv (fun v => ⟨#[.string s, undef, v 18, .int .i64 (s.size : Int), .string s, .int .i64 (s.size : Int), .int .i64 (s.size : Int), .bool false, v 0, v 1, v 2, v 3, v 4, v 5, v 6, v 7, v 8, v 9, v 10, v 11, v 12, v 13, v 14, v 15, v 16, v 17], []⟩) (QJ 18 18 (fun u => Below w.heap.size w u) (foF s) (fun x _ => x = .string (str (be 4 (s.size : Int)) ++ str (le4 (crcOf (bl s))) ++ s))) (fun i => cond (Nat.beq i 18) (.string ⟨#[]⟩) undef) (by kernel_rfl) (by kernel_rfl) rfl ?_ ?_ ?_
    case refine_1 =>
      intro L hL
      refine QJ.start (Below.refl _ w).drew (fun i x hi => ?_) hL
      obtain ⟨m, rfl⟩ : ∃ m, i = m + 18 := ⟨i - 18, by omega⟩
      trivial
    case refine_2 =>
      refine Steps.cons rfl (fun L v u hJ hL hd K hK => ?_) ?_
      · have hI := hJ.inv
        clear hd
        go_simp
        exact hK (updV v 0 _) _ (by exact hJ.next 0 _ (by decide) hL hI (fun _ _ h => h) rfl)
      refine Steps.cons rfl (fun L v u hJ hL hd K hK => ?_) ?_
      · have hI := hJ.inv
        have hF := hJ.F (hJ.hN (by decide) hL)
        have e0 : v 0 = .int .i64 (s.size : Int) := hF 0 (hd ⟨0, .data⟩ (by simp) rfl)
        clear hd hF
        go_simp
        exact hK (updV (updV v 0 (.int .i64 (s.size : Int))) 1 _) _ (by rw [updV_eq e0]; exact hJ.next 1 _ (by decide) hL hI (fun _ _ h => h) rfl)
      refine Steps.cons rfl (fun L v u hJ hL hd K hK => ?_) ?_
      · have hI := hJ.inv
        have hF := hJ.F (hJ.hN (by decide) hL)
        have e1 : v 1 = .int .i64 ((s.size : Int) / 16777216) := hF 1 (hd ⟨1, .data⟩ (by simp) rfl)
        clear hd hF
        have hw : IntKind.u8.wrap (((s.size : Int) / 16777216)) = ((s.size : Int) / 16777216) := by rw [IntKind.wrap_u8]; omega
        go_simp
        exact hK (updV (updV v 1 (.int .i64 ((s.size : Int) / 16777216))) 2 _) _ (by rw [updV_eq e1]; exact hJ.next 2 _ (by decide) hL hI (fun _ _ h => h) rfl)
      refine Steps.cons rfl (fun L v u hJ hL hd K hK => ?_) ?_
      · have hI := hJ.inv
        clear hd
        go_simp
        exact hK (updV v 3 _) _ (by exact hJ.next 3 _ (by decide) hL hI (fun _ _ h => h) rfl)
      refine Steps.cons rfl (fun L v u hJ hL hd K hK => ?_) ?_
      · have hI := hJ.inv
        have hF := hJ.F (hJ.hN (by decide) hL)
        have e3 : v 3 = .int .i64 (s.size : Int) := hF 3 (hd ⟨3, .data⟩ (by simp) rfl)
        clear hd hF
        go_simp
        exact hK (updV (updV v 3 (.int .i64 (s.size : Int))) 4 _) _ (by rw [updV_eq e3]; exact hJ.next 4 _ (by decide) hL hI (fun _ _ h => h) rfl)
      refine Steps.cons rfl (fun L v u hJ hL hd K hK => ?_) ?_
      · have hI := hJ.inv
        have hF := hJ.F (hJ.hN (by decide) hL)
        have e4 : v 4 = .int .i64 ((s.size : Int) / 65536) := hF 4 (hd ⟨4, .data⟩ (by simp) rfl)
        clear hd hF
        have hw : IntKind.u8.wrap (((s.size : Int) / 65536)) = ((s.size : Int) / 65536) := by rw [IntKind.wrap_u8]; omega
        go_simp
        exact hK (updV (updV v 4 (.int .i64 ((s.size : Int) / 65536))) 5 _) _ (by rw [updV_eq e4]; exact hJ.next 5 _ (by decide) hL hI (fun _ _ h => h) rfl)
      refine Steps.cons rfl (fun L v u hJ hL hd K hK => ?_) ?_
      · have hI := hJ.inv
        clear hd
        go_simp
        exact hK (updV v 6 _) _ (by exact hJ.next 6 _ (by decide) hL hI (fun _ _ h => h) rfl)
      refine Steps.cons rfl (fun L v u hJ hL hd K hK => ?_) ?_
      · have hI := hJ.inv
        have hF := hJ.F (hJ.hN (by decide) hL)
        have e6 : v 6 = .int .i64 (s.size : Int) := hF 6 (hd ⟨6, .data⟩ (by simp) rfl)
        clear hd hF
        go_simp
        exact hK (updV (updV v 6 (.int .i64 (s.size : Int))) 7 _) _ (by rw [updV_eq e6]; exact hJ.next 7 _ (by decide) hL hI (fun _ _ h => h) rfl)
      refine Steps.cons rfl (fun L v u hJ hL hd K hK => ?_) ?_
      · have hI := hJ.inv
        have hF := hJ.F (hJ.hN (by decide) hL)
        have e7 : v 7 = .int .i64 ((s.size : Int) / 256) := hF 7 (hd ⟨7, .data⟩ (by simp) rfl)
        clear hd hF
        go_simp
        exact hK (updV (updV v 7 (.int .i64 ((s.size : Int) / 256))) 8 _) _ (by rw [updV_eq e7]; exact hJ.next 8 _ (by decide) hL hI (fun _ _ h => h) rfl)
      refine Steps.cons rfl (fun L v u hJ hL hd K hK => ?_) ?_
      · have hI := hJ.inv
        clear hd
        go_simp
        exact hK (updV v 9 _) _ (by exact hJ.next 9 _ (by decide) hL hI (fun _ _ h => h) rfl)
      refine Steps.cons rfl (fun L v u hJ hL hd K hK => ?_) ?_
      · have hI := hJ.inv
        have hF := hJ.F (hJ.hN (by decide) hL)
        have e9 : v 9 = .int .i64 (s.size : Int) := hF 9 (hd ⟨9, .data⟩ (by simp) rfl)
        clear hd hF
        go_simp
        exact hK (updV (updV v 9 (.int .i64 (s.size : Int))) 10 _) _ (by rw [updV_eq e9]; exact hJ.next 10 _ (by decide) hL hI (fun _ _ h => h) rfl)
      refine Steps.cons rfl (fun L v u hJ hL hd K hK => ?_) ?_
      · have hI := hJ.inv
        have hF := hJ.F (hJ.hN (by decide) hL)
        have e2 : v 2 = .int .u8 ((s.size : Int) / 16777216) := hF 2 (hd ⟨2, .data⟩ (by simp) rfl)
        have e5 : v 5 = .int .u8 ((s.size : Int) / 65536) := hF 5 (hd ⟨5, .data⟩ (by simp) rfl)
        have e8 : v 8 = .int .u8 ((s.size : Int) / 256 % 256) := hF 8 (hd ⟨8, .data⟩ (by simp) rfl)
        have e10 : v 10 = .int .u8 ((s.size : Int) % 256) := hF 10 (hd ⟨10, .data⟩ (by simp) rfl)
        clear hd hF
        have hc := four_cells u (be 4 (s.size : Int)) (be_length 4 _) ((s.size : Int) / 16777216) ((s.size : Int) / 65536) ((s.size : Int) / 256 % 256) ((s.size : Int) % 256) 5 (be4_0 s.size hn) (be4_1 s.size hn) (be4_2 s.size) (be4_3 s.size)
        go_simp
        exact hK (updV (updV (updV (updV (updV v 2 (.int .u8 ((s.size : Int) / 16777216))) 5 (.int .u8 ((s.size : Int) / 65536))) 8 (.int .u8 ((s.size : Int) / 256 % 256))) 10 (.int .u8 ((s.size : Int) % 256))) 11 _) _ (by rw [updV_eq e2, updV_eq e5, updV_eq e8, updV_eq e10]; exact hJ.next 11 _ (by decide) hL (hI.alloc hI.size _) (foF_same ((Below.refl _ u).alloc (Nat.le_refl _) _)) ⟨_, rfl, by simp, hc⟩)
      refine Steps.cons rfl (fun L v u hJ hL hd K hK => ?_) ?_
      · have hI := hJ.inv
        have hF := hJ.F (hJ.hN (by decide) hL)
        obtain ⟨g, e11, hg, hG⟩ := hF 11 (hd ⟨11, .data⟩ (by simp) rfl)
        clear hd hF
        have hst := str_conv u g (be 4 (s.size : Int)) (be_length 4 _) hG
        go_simp
        exact hK (updV (updV v 11 (.slice (some ⟨g, 0, none⟩) 4 4)) 12 _) _ (by rw [updV_eq e11]; exact hJ.next 12 _ (by decide) hL hI (fun _ _ h => h) rfl)
      refine Steps.cons rfl (fun L v u hJ hL hd K hK => ?_) ?_
      · have hI := hJ.inv
        clear hd
        go_simp
        exact hK (updV v 13 _) _ (by exact hJ.next 13 _ (by decide) hL hI (fun _ _ h => h) rfl)
      refine Steps.cons rfl (fun L v u hJ hL hd K hK => ?_) ?_
      · have hI := hJ.inv
        have hF := hJ.F (hJ.hN (by decide) hL)
        have e13 : v 13 = .string s := hF 13 (hd ⟨13, .data⟩ (by simp) rfl)
        clear hd hF
        go_simp
        refine (CL.out u).mono ?_
        rintro e u1 ⟨rfl, hb⟩
        exact hK (updV (updV v 13 (.string s)) 14 _) _ (by rw [updV_eq e13]; exact hJ.next 14 _ (by decide) hL (hI.trans (hb.mono hI.size)) (foF_same hb) rfl)
      refine Steps.cons rfl (fun L v u hJ hL hd K hK => ?_) ?_
      · have hI := hJ.inv
        have hF := hJ.F (hJ.hN (by decide) hL)
        have e12 : v 12 = .string (str (be 4 (s.size : Int))) := hF 12 (hd ⟨12, .data⟩ (by simp) rfl)
        have e14 : v 14 = .string (str (le4 (crcOf (bl s)))) := hF 14 (hd ⟨14, .data⟩ (by simp) rfl)
        clear hd hF
        have z1 : (str (be 4 (s.size : Int))).size = 4 := by rw [str_size, be_length]
        have z2 : (str (le4 (crcOf (bl s)))).size = 4 := rfl
        have z3 : (be 4 (s.size : Int)).length = 4 := be_length 4 _
        have z4 : (le4 (crcOf (bl s))).length = 4 := rfl
        have z5 : ¬ 9223372036854775807 < 8 + s.size := by omega
        go_simp
        exact hK (updV (updV (updV v 12 (.string (str (be 4 (s.size : Int))))) 14 (.string (str (le4 (crcOf (bl s)))))) 15 _) _ (by rw [updV_eq e12, updV_eq e14]; exact hJ.next 15 _ (by decide) hL hI (fun _ _ h => h) rfl)
      refine Steps.cons rfl (fun L v u hJ hL hd K hK => ?_) ?_
      · have hI := hJ.inv
        clear hd
        go_simp
        exact hK (updV v 16 _) _ (by exact hJ.next 16 _ (by decide) hL hI (fun _ _ h => h) rfl)
      refine Steps.cons rfl (fun L v u hJ hL hd K hK => ?_) ?_
      · have hI := hJ.inv
        have hF := hJ.F (hJ.hN (by decide) hL)
        have e15 : v 15 = .string (str (be 4 (s.size : Int)) ++ str (le4 (crcOf (bl s)))) := hF 15 (hd ⟨15, .data⟩ (by simp) rfl)
        have e16 : v 16 = .string s := hF 16 (hd ⟨16, .data⟩ (by simp) rfl)
        clear hd hF
        have z1 : (str (be 4 (s.size : Int))).size = 4 := by rw [str_size, be_length]
        have z2 : (str (le4 (crcOf (bl s)))).size = 4 := rfl
        have z3 : (be 4 (s.size : Int)).length = 4 := be_length 4 _
        have z4 : (le4 (crcOf (bl s))).length = 4 := rfl
        have z5 : ¬ 9223372036854775807 < 8 + s.size := by omega
        go_simp
        exact hK (updV (updV (updV v 15 (.string (str (be 4 (s.size : Int)) ++ str (le4 (crcOf (bl s)))))) 16 (.string s)) 17 _) _ (by rw [updV_eq e15, updV_eq e16]; exact hJ.next 17 _ (by decide) hL hI (fun _ _ h => h) rfl)
      refine Steps.cons rfl (fun L v u hJ hL hd K hK => ?_) ?_
      · have hI := hJ.inv
        have hF := hJ.F hL
        have e17 : v 17 = .string (str (be 4 (s.size : Int)) ++ str (le4 (crcOf (bl s))) ++ s) := hF 17 (hd ⟨17, .data⟩ (by simp) rfl)
        clear hF
        go_simp
        refine hK (updV (updV v 17 (.string (str (be 4 (s.size : Int)) ++ str (le4 (crcOf (bl s))) ++ s))) 18 (.string (str (be 4 (s.size : Int)) ++ str (le4 (crcOf (bl s))) ++ s))) _ ?_
        rw [updV_eq e17]
        refine QJ.last hI (fun j hj => ?_) (updV_same v 18 _)
        have hjs : j ∈ List.range 18 := by simpa using hj
        have hall : ∀ j ∈ List.range 18, L j = true := by
          simp only [List.range_succ, List.range_zero, List.nil_append, List.mem_append, List.mem_singleton]
          rintro j hj
          repeat (first | (rcases hj with hj | rfl; rotate_left; exact hd ⟨_, .phase⟩ (by simp) rfl) | (subst hj; exact hd ⟨_, .phase⟩ (by simp) rfl))
        exact hall j hjs
      exact Steps.nil
    case refine_3 =>
      intro L v u hJ hL
      have e18 := hJ.E (hL 18 (by decide))
      have hB := hJ.inv
      clear hJ hL
      go_wp2
      go_ret
      exact ⟨by rw [HV.out, ← e18]; rfl, hB⟩
end Go.Proofs.YteflhnmoceppgaaDoor
