/-
  Frames with their sums: the program and the model; the exact law.
-/
import Derived.Test.YtiolhmdbbibbbaaDoorCrc2
import Derived.Test.YtiolhmdbbibbbaaDoorWalks2
import Derived.Test.YtiolhmdbbibbbaaDoorRinv
namespace Go.Proofs.YtiolhmdbbibbbaaDoor
open Go.RowKit Go.PlainAid
/-- a frame of these bytes -/
def frOf (l : List UInt8) : List UInt8 := if 100000 < l.length then [] else be 4 (l.length : Int) ++ le4 (crcOf l) ++ l
theorem be4_eq (n : Nat) : be 4 (n : Int) = [UInt8.ofNat (((n : Int) / 16777216) % 256).toNat, UInt8.ofNat (((n : Int) / 65536) % 256).toNat, UInt8.ofNat (((n : Int) / 256) % 256).toNat, UInt8.ofNat ((n : Int) % 256).toNat] := by
  simp only [be, List.nil_append, List.cons_append]
  rw [show (n : Int) / 256 / 256 / 256 = (n : Int) / 16777216 by omega, show (n : Int) / 256 / 256 = (n : Int) / 65536 by omega]
theorem u8_toNat (x : Int) : ((UInt8.ofNat (x % 256).toNat).toNat : Int) = x % 256 := by
  have : (UInt8.ofNat (x % 256).toNat).toNat = (x % 256).toNat := by simp [UInt8.toNat_ofNat']; omega
  rw [this]; omega
theorem be4_at (n j : Nat) (x : Int) (h : j < 4) (he : [((n : Int) / 16777216) % 256, ((n : Int) / 65536) % 256, ((n : Int) / 256) % 256, (n : Int) % 256][j]? = some x) : x = (((be 4 (n : Int))[j]'(by rw [be_length]; exact h)).toNat : Int) := by
  have hj : j = 0 ∨ j = 1 ∨ j = 2 ∨ j = 3 := by omega
  have e := be4_eq n
  rcases hj with rfl | rfl | rfl | rfl
  all_goals
    simp only [List.getElem?_cons_zero, List.getElem?_cons_succ, Option.some.injEq] at he
    subst he
    simp only [e, List.getElem_cons_zero, List.getElem_cons_succ, u8_toNat]
theorem be4_0 (n : Nat) (h : n ≤ 100000) : (n : Int) / 16777216 = (((be 4 (n : Int))[0]'(by rw [be_length]; decide)).toNat : Int) := by rw [← be4_at n 0 _ (by decide) rfl]; omega
theorem be4_1 (n : Nat) (h : n ≤ 100000) : (n : Int) / 65536 = (((be 4 (n : Int))[1]'(by rw [be_length]; decide)).toNat : Int) := by rw [← be4_at n 1 _ (by decide) rfl]; omega
theorem be4_2 (n : Nat) : (n : Int) / 256 % 256 = (((be 4 (n : Int))[2]'(by rw [be_length]; decide)).toNat : Int) := be4_at n 2 _ (by decide) rfl
theorem be4_3 (n : Nat) : (n : Int) % 256 = (((be 4 (n : Int))[3]'(by rw [be_length]; decide)).toNat : Int) := be4_at n 3 _ (by decide) rfl
theorem str_conv (w : World) (g : Nat) (l : List UInt8) (hl : l.length = 4) (hc : ∀ j c, l[j]? = some c → w.cell? ⟨g, j, none⟩ = some (.int .u8 (c.toNat : Int))) : (convert 36 9 (.slice (some ⟨g, 0, none⟩) 4 4)).run Tryd.prog w = .ok (.string (str l)) w := by
  have e : ∀ j, (⟨g, 0, none⟩ : Addr).add j = ⟨g, j, none⟩ := fun j => by unfold Addr.add; split <;> simp_all
  have hr := run_convert_bytes_back (P := Tryd.prog) w 36 9 5 ⟨g, 0, none⟩ 4 l Tryd.underlying36 Tryd.underlying5 Tryd.underlying9 (fun j hj => by rw [e]; exact hc j _ (List.getElem?_eq_getElem hj))
  rw [hl] at hr
  exact hr
set_option maxRecDepth 100000 in
set_option maxHeartbeats 1600000 in
theorem i_FrameOf (s : ByteArray) (w : World) (hs : s.size ≤ 1099511627776) (hT : CrcTab w) :
    Calls Tryd.prog 18 #[.string s] w fun e w' => e = .returned (.string (str (frOf (bl s)))) ∧ Below w.heap.size w w' := by
  by_cases hn : 100000 < s.size
  · have HV : Hid (frOf (bl s) = []) := by show _ = _; unfold frOf; rw [if_pos (by rw [bl_length]; exact hn)]
    have hni : (100000 : Int) < (s.size : Int) := by omega
    go_enter Tryd.func18, Tryd.ntmps18
    go_wp2
    go_ret
    exact ⟨by rw [HV.out]; rfl, Below.refl _ _⟩
  · have HV : Hid (str (frOf (bl s)) = str (be 4 (s.size : Int)) ++ str (le4 (crcOf (bl s))) ++ s) := by
      show _ = _
      unfold frOf; rw [if_neg (by rw [bl_length]; exact hn), bl_length, ← str_app, ← str_app, str_bl]
    have hni : ¬ (100000 : Int) < (s.size : Int) := by omega
    have CB : Hid (∀ u : World, Calls Tryd.prog 22 #[.int .i64 (s.size : Int), .int .i64 4] u fun e w' => e = .returned (.string (str (be 4 (s.size : Int)))) ∧ Below u.heap.size u w') := fun u => by
      have := i_BytesOf (s.size : Int) 4 u (by omega)
      rw [okB_of (by decide) (by decide) (by omega) (by simp only [Int.reduceToNat, Int.reducePow]; omega)] at this
      exact this
    have CC : Hid (∀ u : World, Below w.heap.size w u → Calls Tryd.prog 24 #[.string s] u fun e w' => e = .returned (.int .u32 (crcOf (bl s) : Nat)) ∧ w' = u) := fun u hb => i_crcOf s u hs (hT.below hb)
    have CL : Hid (∀ u : World, Calls Tryd.prog 23 #[.int .u32 (crcOf (bl s) : Nat)] u fun e w' => e = .returned (.string (str (le4 (crcOf (bl s))))) ∧ Below u.heap.size u w') := fun u => i_lowestFirst _ u (crcOf_lt _)
    have z1 : (str (be 4 (s.size : Int))).size = 4 := by rw [str_size, be_length]
    have z2 : (str (le4 (crcOf (bl s)))).size = 4 := rfl
    have z3 : (be 4 (s.size : Int)).length = 4 := be_length 4 _
    have z4 : (le4 (crcOf (bl s))).length = 4 := rfl
    generalize le4 (crcOf (bl s)) = lc at *
    generalize be 4 (s.size : Int) = lb at *
    generalize crcOf (bl s) = cr at *
    clear hT
    go_enter Tryd.func18, Tryd.ntmps18
    go_wp2_with fail
    refine (CB.out _).mono ?_
    rintro e w1 ⟨rfl, hB⟩
    go_wp2_with fail
    refine (CC.out _ hB).mono ?_
    rintro e wq ⟨rfl, hq⟩
    rw [hq]
    clear hq wq
    go_wp2_with fail
    refine (CL.out _).mono ?_
    rintro e w2 ⟨rfl, hb⟩
    go_wp2
    go_ret
    exact ⟨by rw [HV.out]; rfl, hB.trans (hb.mono hB.size)⟩
/-- what each operation leaves -/
def foF (s : ByteArray) : Nat → Value → World → Prop
  | 0, x, _ => x = .int .i64 (s.size : Int)
  | 1, x, _ => x = .int .i64 ((s.size : Int) / 16777216)
  | 2, x, _ => x = .int .u8 ((s.size : Int) / 16777216)
  | 3, x, _ => x = .int .i64 (s.size : Int)
  | 4, x, _ => x = .int .i64 ((s.size : Int) / 65536)
  | 5, x, _ => x = .int .u8 ((s.size : Int) / 65536)
  | 6, x, _ => x = .int .i64 (s.size : Int)
  | 7, x, _ => x = .int .i64 ((s.size : Int) / 256)
  | 8, x, _ => x = .int .u8 ((s.size : Int) / 256 % 256)
  | 9, x, _ => x = .int .i64 (s.size : Int)
  | 10, x, _ => x = .int .u8 ((s.size : Int) % 256)
  | 11, x, w => ∃ g, x = .slice (some ⟨g, 0, none⟩) 4 4 ∧ g < w.heap.size ∧ ∀ j c, (be 4 (s.size : Int))[j]? = some c → w.cell? ⟨g, j, none⟩ = some (.int .u8 (c.toNat : Int))
  | 12, x, _ => x = .string (str (be 4 (s.size : Int)))
  | 13, x, _ => x = .string s
  | 14, x, _ => x = .string (str (le4 (crcOf (bl s))))
  | 15, x, _ => x = .string (str (be 4 (s.size : Int)) ++ str (le4 (crcOf (bl s))))
  | 16, x, _ => x = .string s
  | 17, x, _ => x = .string (str (be 4 (s.size : Int)) ++ str (le4 (crcOf (bl s))) ++ s)
  | _ + 18, _, _ => True
theorem foF_same {s : ByteArray} {w w' : World} (hb : Below w.heap.size w w') : ∀ (i : Nat) (x : Value), foF s i x w → foF s i x w'
  | 0, _, h => h
  | 1, _, h => h
  | 2, _, h => h
  | 3, _, h => h
  | 4, _, h => h
  | 5, _, h => h
  | 6, _, h => h
  | 7, _, h => h
  | 8, _, h => h
  | 9, _, h => h
  | 10, _, h => h
  | 11, _, ⟨g, e, hg, h⟩ => ⟨g, e, Nat.lt_of_lt_of_le hg hb.size, fun j c hj => (hb.cell (p := ⟨g, j, none⟩) hg).trans (h j c hj)⟩
  | 12, _, h => h
  | 13, _, h => h
  | 14, _, h => h
  | 15, _, h => h
  | 16, _, h => h
  | 17, _, h => h
  | _ + 18, _, _ => trivial
end Go.Proofs.YtiolhmdbbibbbaaDoor
