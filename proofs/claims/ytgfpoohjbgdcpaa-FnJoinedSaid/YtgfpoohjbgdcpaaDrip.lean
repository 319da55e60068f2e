/-
  The draw of datagrams.
-/
import Derived.Test.YtgfpoohjbgdcpaaDradr
import Derived.Test.YtgfpoohjbgdcpaaDropt
import Derived.Test.YtgfpoohjbgdcpaaRinv
import Derived.Test.YtgfpoohjbgdcpaaRdr
import Derived.Deep.RegionWith
namespace Go.Proofs.Ytgfpoohjbgdcpaa
open Go.RowKit Go.PlainAid
/-- a block of this run's own, beside the reader's -/
structure OI (b B : Nat) (u : World) (g : Nat) (vs : List Value) : Prop where
  bx : Bx u g vs
  fx : Fx u g
  ne : g ≠ b
  le : B ≤ g
theorem Fx.onlyI {b g : Nat} {u u1 : World} (h : Fx u g) (hO : Only b u u1) (hg : g ≠ b) : Fx u1 g :=
  ⟨Nat.lt_of_lt_of_le h.1 hO.size, fun j => (World.frozen?_of_block (w := u) (a := ⟨g, j, none⟩) (hO.block g h.1 (by simp; exact hg))).trans (h.2 j)⟩
theorem OI.only {b B g : Nat} {vs : List Value} {u u1 : World} (h : OI b B u g vs) (hO : Only b u u1) : OI b B u1 g vs :=
  ⟨h.bx.only hO h.ne, h.fx.onlyI hO h.ne, h.ne, h.le⟩
theorem OI.new {b B : Nat} {u : World} {A : Array Value} {T : TypeId} (hb : b < u.heap.size) (hB : B ≤ u.heap.size) : OI b B (u.alloc (.cells A T)) u.heap.size A.toList :=
  ⟨Bx.new u A T, Fx.new u A T, by omega, hB⟩
theorem OI.set {b B g : Nat} {vs : List Value} {u : World} (h : OI b B u g vs) (j : Nat) (v : Value) : OI b B (u.setCell ⟨g, j, none⟩ v) g (vs.set j v) := ⟨h.bx.put j v, h.fx.put _ _, h.ne, h.le⟩
theorem OI.beside {b B g : Nat} {vs : List Value} {u : World} (h : OI b B u g vs) {c j : Nat} (hc : c ≠ g) (v : Value) : OI b B (u.setCell ⟨c, j, none⟩ v) g vs :=
  ⟨⟨by simpa using h.bx.1, fun i x hi => (World.cell?_setCell_other _ _ _ _ (fun k => hc (congrArg Addr.block k))).trans (h.bx.2 i x hi)⟩, h.fx.put _ _, h.ne, h.le⟩
theorem OI.below {b B g : Nat} {vs : List Value} {u u1 : World} (h : OI b B u g vs) (hb : Below u.heap.size u u1) : OI b B u1 g vs := ⟨h.bx.below hb, h.fx.below hb, h.ne, h.le⟩
theorem only_setI {b : Nat} {w U : World} {g j : Nat} {v : Value} (h : Only b w U) (hg : w.heap.size ≤ g) : Only b w (U.setCell ⟨g, j, none⟩ v) :=
  h.beyond (Nat.le_refl _) ((Below.refl w.heap.size U).setCell (p := ⟨g, j, none⟩) hg v)
theorem rdi_setI {b : Nat} {C : Option Addr} {len cap : Nat} {U : World} {g j : Nat} {v : Value} (h : RdI U b C len cap) (hg : b < g) : RdI (U.setCell ⟨g, j, none⟩ v) b C len cap :=
  h.kept ((Below.refl _ U).setCell (p := ⟨g, j, none⟩) (by show b + 1 ≤ g; omega) v)
abbrev proT : Array Value := #[Value.int .i64 17, .int .i64 47, .int .i64 6]
abbrev zerI : List Value := [.int .i64 0, .int .i64 0, .bool false, .bool false, .int .i64 0, .int .i64 0, .int .i64 0, .int .i64 0, .int .i64 0, .string ⟨#[]⟩, .string ⟨#[]⟩]
theorem pro_at (Y : Nat) (h : Y < 3) : ∃ y : Int, proT.toList[Y]? = some (.int .i64 y) := by
  have : Y = 0 ∨ Y = 1 ∨ Y = 2 := by omega
  rcases this with rfl | rfl | rfl <;> exact ⟨_, rfl⟩
/-- what each operation of the literal leaves -/
def ripF (b B : Nat) : Nat → Value → World → Prop
  | 0, x, _ => x = .pointer (some ⟨b, 0, none⟩)
  | 1, x, _ => ∃ y : Int, x = .int .i64 y
  | 2, x, _ => x = .pointer (some ⟨b, 0, none⟩)
  | 3, x, _ => ∃ y : Int, x = .int .i64 y
  | 4, x, _ => x = .pointer (some ⟨b, 0, none⟩)
  | 5, x, _ => ∃ q : Bool, x = .bool q
  | 6, x, _ => x = .pointer (some ⟨b, 0, none⟩)
  | 7, x, _ => ∃ y : Int, x = .int .i64 y
  | 8, x, w => ∃ g, x = .slice (some ⟨g, 0, none⟩) 3 3 ∧ OI b B w g proT.toList
  | 9, x, _ => x = .pointer (some ⟨b, 0, none⟩)
  | 10, x, _ => ∃ Y : Nat, x = .int .i64 (Y : Int) ∧ Y < 3
  | 11, x, w => ∃ g Y : Nat, x = .pointer (some ⟨g, Y, none⟩) ∧ OI b B w g proT.toList ∧ Y < 3
  | 12, x, _ => ∃ y : Int, x = .int .i64 y
  | 13, x, _ => x = .pointer (some ⟨b, 0, none⟩)
  | 14, x, _ => ∃ y : Int, x = .int .i64 y
  | 15, x, _ => x = .pointer (some ⟨b, 0, none⟩)
  | 16, x, _ => ∃ y : Int, x = .int .i64 y
  | 17, x, _ => x = .pointer (some ⟨b, 0, none⟩)
  | 18, x, _ => ∃ t : ByteArray, x = .string t ∧ t.size ≤ 90
  | 19, x, _ => ∃ (x0 x1 : Int) (x2 : Bool) (x5 x6 x7 x8 : Int) (t : ByteArray), x = .agg #[.int .i64 x0, .int .i64 x1, .bool x2, .bool false, .int .i64 0, .int .i64 x5, .int .i64 x6, .int .i64 x7, .int .i64 x8, .string ⟨#[]⟩, .string t] ∧ t.size ≤ 90
  | 20, x, w => ∃ g, x = .pointer (some ⟨g, 0, none⟩) ∧ OI b B w g zerI
  | _ + 21, _, _ => True
theorem ripF_only {b B : Nat} {w w' : World} (hO : Only b w w') : ∀ (i : Nat) (x : Value), ripF b B i x w → ripF b B i x w'
  | 0, _, h => h
  | 1, _, h => h
  | 2, _, h => h
  | 3, _, h => h
  | 4, _, h => h
  | 5, _, h => h
  | 6, _, h => h
  | 7, _, h => h
  | 8, _, ⟨g, e, h⟩ => ⟨g, e, h.only hO⟩
  | 9, _, h => h
  | 10, _, h => h
  | 11, _, ⟨g, Y, e, h, hY⟩ => ⟨g, Y, e, h.only hO, hY⟩
  | 12, _, h => h
  | 13, _, h => h
  | 14, _, h => h
  | 15, _, h => h
  | 16, _, h => h
  | 17, _, h => h
  | 18, _, h => h
  | 19, _, h => h
  | 20, _, ⟨g, e, h⟩ => ⟨g, e, h.only hO⟩
  | _ + 21, _, _ => trivial
set_option maxRecDepth 100000 in
set_option maxHeartbeats 64000000 in
theorem r_ip (b : Nat) (C : Option Addr) (len cap : Nat) (w : World) (h : RdI w b C len cap) :
    Calls Try.prog 61 #[.pointer (some ⟨b, 0, none⟩)] w fun e w' => ∃ p : IpV, e = .returned (.agg (ipL p)) ∧ p.data.size ≤ 65600 ∧ p.opts.size ≤ 24 ∧ 0 ≤ p.off ∧ p.off ≤ 11 ∧ RdI w' b C len cap ∧ Only b w w' := by
  have hbw := h.lt
  have hZ : OI b w.heap.size (w.alloc (.cells zerI.toArray 28)) w.heap.size zerI := OI.new hbw (Nat.le_refl _)
  have hR := h.alloc (.cells zerI.toArray 28)
  have hO : Only b w (w.alloc (.cells zerI.toArray 28)) := (Only.refl b w).alloc _
  have hw0 : (w.alloc (.cells zerI.toArray 28)).heap.size = w.heap.size + 1 := by simp
  clear h
  go_enter Try.func61, Try.ntmps61
  go_wp2_with fail
  generalize hW0 : w.alloc _ = w0 at *
  clear hW0
  have hs : w0.heap.size ≤ w0.heap.size := Nat.le_refl _
  refine wp_region_inv (fun v => ⟨#[.pointer (some ⟨b, 0, none⟩), undef, .pointer (some ⟨w.heap.size, 0, none⟩), v 20, v 0, v 1, v 2, v 3, v 4, v 5, v 6, v 7, v 8, v 9, v 10, v 11, v 12, v 13, v 14, v 15, v 16, v 17, v 18, v 19, undef, undef, undef, undef, undef, undef, undef, undef, undef, undef, undef, undef, undef, undef, undef, undef, undef, undef, undef, undef, undef, undef, undef, undef, undef, undef, undef, undef, undef, undef, undef, undef, undef, undef], []⟩) (QJ 21 20 (fun u => RdI u b C len cap ∧ Only b w0 u) (ripF b w0.heap.size) (fun x u => ∃ (g : Nat) (x0 x1 : Int) (x2 : Bool) (x5 x6 x7 x8 : Int) (t : ByteArray), x = .pointer (some ⟨g, 0, none⟩) ∧ OI b w0.heap.size u g [.int .i64 x0, .int .i64 x1, .bool x2, .bool false, .int .i64 0, .int .i64 x5, .int .i64 x6, .int .i64 x7, .int .i64 x8, .string ⟨#[]⟩, .string t] ∧ t.size ≤ 90)) (fun _ => undef) (by kernel_rfl) (by kernel_rfl) rfl ?_ ?_ ?_
  case refine_1 =>
    intro L hL
    refine QJ.start ⟨hR.drew, (Only.refl b w0).drew⟩ (fun i x hi => ?_) hL
    obtain ⟨m, rfl⟩ : ∃ m, i = m + 21 := ⟨i - 21, by omega⟩
    trivial
  case refine_2 =>
    refine Steps.cons rfl (fun L v u hJ hL hd K hK => ?_) ?_
    · have hI := hJ.inv
      clear hd
      go_simp
      exact hK (updV v 0 _) _ (hJ.next 0 _ (by decide) hL hI (fun _ _ h => h) rfl)
    refine Steps.cons rfl (fun L v u hJ hL hd K hK => ?_) ?_
    · have hI := hJ.inv
      have e0 : v 0 = .pointer (some ⟨b, 0, none⟩) := hJ.F (hJ.hN (by decide) hL) 0 (hd ⟨0, .data⟩ (by simp) rfl)
      clear hd
      go_simp
      refine (r_below b C len cap _ _ (by omega) hI.1).mono ?_
      rintro e u1 ⟨y, rfl, hy0, hy1, hR1, hO1⟩
      exact hK (updV (updV v 0 (.pointer (some ⟨b, 0, none⟩))) 1 _) _ (by rw [updV_eq e0]; exact hJ.next 1 _ (by decide) hL ⟨hR1, hI.2.trans hO1⟩ (ripF_only hO1) ⟨y, rfl⟩)
    refine Steps.cons rfl (fun L v u hJ hL hd K hK => ?_) ?_
    · have hI := hJ.inv
      clear hd
      go_simp
      exact hK (updV v 2 _) _ (hJ.next 2 _ (by decide) hL hI (fun _ _ h => h) rfl)
    refine Steps.cons rfl (fun L v u hJ hL hd K hK => ?_) ?_
    · have hI := hJ.inv
      have e2 : v 2 = .pointer (some ⟨b, 0, none⟩) := hJ.F (hJ.hN (by decide) hL) 2 (hd ⟨2, .data⟩ (by simp) rfl)
      clear hd
      go_simp
      refine (r_u16 b C len cap _ hI.1).mono ?_
      rintro e u1 ⟨y, rfl, hy0, hy1, hR1, hO1⟩
      exact hK (updV (updV v 2 (.pointer (some ⟨b, 0, none⟩))) 3 _) _ (by rw [updV_eq e2]; exact hJ.next 3 _ (by decide) hL ⟨hR1, hI.2.trans hO1⟩ (ripF_only hO1) ⟨y, rfl⟩)
    refine Steps.cons rfl (fun L v u hJ hL hd K hK => ?_) ?_
    · have hI := hJ.inv
      clear hd
      go_simp
      exact hK (updV v 4 _) _ (hJ.next 4 _ (by decide) hL hI (fun _ _ h => h) rfl)
    refine Steps.cons rfl (fun L v u hJ hL hd K hK => ?_) ?_
    · have hI := hJ.inv
      have e4 : v 4 = .pointer (some ⟨b, 0, none⟩) := hJ.F (hJ.hN (by decide) hL) 4 (hd ⟨4, .data⟩ (by simp) rfl)
      clear hd
      go_simp
      refine (r_once b C len cap _ _ (by omega) (by omega) hI.1).mono ?_
      rintro e u1 ⟨q, rfl, hR1, hO1⟩
      exact hK (updV (updV v 4 (.pointer (some ⟨b, 0, none⟩))) 5 _) _ (by rw [updV_eq e4]; exact hJ.next 5 _ (by decide) hL ⟨hR1, hI.2.trans hO1⟩ (ripF_only hO1) ⟨q, rfl⟩)
    refine Steps.cons rfl (fun L v u hJ hL hd K hK => ?_) ?_
    · have hI := hJ.inv
      clear hd
      go_simp
      exact hK (updV v 6 _) _ (hJ.next 6 _ (by decide) hL hI (fun _ _ h => h) rfl)
    refine Steps.cons rfl (fun L v u hJ hL hd K hK => ?_) ?_
    · have hI := hJ.inv
      have e6 : v 6 = .pointer (some ⟨b, 0, none⟩) := hJ.F (hJ.hN (by decide) hL) 6 (hd ⟨6, .data⟩ (by simp) rfl)
      clear hd
      go_simp
      refine (r_below b C len cap _ _ (by omega) hI.1).mono ?_
      rintro e u1 ⟨y, rfl, hy0, hy1, hR1, hO1⟩
      exact hK (updV (updV v 6 (.pointer (some ⟨b, 0, none⟩))) 7 _) _ (by rw [updV_eq e6]; exact hJ.next 7 _ (by decide) hL ⟨hR1, hI.2.trans hO1⟩ (ripF_only hO1) ⟨y, rfl⟩)
    refine Steps.cons rfl (fun L v u hJ hL hd K hK => ?_) ?_
    · have hI := hJ.inv
      clear hd
      go_simp
      exact hK (updV v 8 _) _ (hJ.next 8 _ (by decide) hL ⟨hI.1.alloc _, hI.2.alloc _⟩ (ripF_only ((Only.refl b u).alloc _)) ⟨_, rfl, OI.new hI.1.lt hI.2.size⟩)
    refine Steps.cons rfl (fun L v u hJ hL hd K hK => ?_) ?_
    · have hI := hJ.inv
      clear hd
      go_simp
      exact hK (updV v 9 _) _ (hJ.next 9 _ (by decide) hL hI (fun _ _ h => h) rfl)
    refine Steps.cons rfl (fun L v u hJ hL hd K hK => ?_) ?_
    · have hI := hJ.inv
      have e9 : v 9 = .pointer (some ⟨b, 0, none⟩) := hJ.F (hJ.hN (by decide) hL) 9 (hd ⟨9, .data⟩ (by simp) rfl)
      clear hd
      go_simp
      refine (r_below b C len cap _ _ (by omega) hI.1).mono ?_
      rintro e u1 ⟨y, rfl, hy0, hy1, hR1, hO1⟩
      obtain ⟨Y, rfl⟩ := Int.eq_ofNat_of_zero_le hy0
      exact hK (updV (updV v 9 (.pointer (some ⟨b, 0, none⟩))) 10 _) _ (by rw [updV_eq e9]; exact hJ.next 10 _ (by decide) hL ⟨hR1, hI.2.trans hO1⟩ (ripF_only hO1) ⟨Y, rfl, by omega⟩)
    refine Steps.cons rfl (fun L v u hJ hL hd K hK => ?_) ?_
    · have hI := hJ.inv
      have hF := hJ.F (hJ.hN (by decide) hL)
      obtain ⟨g, e8, hG⟩ := hF 8 (hd ⟨8, .data⟩ (by simp) rfl)
      obtain ⟨Y, e10, hY⟩ := hF 10 (hd ⟨10, .data⟩ (by simp) rfl)
      clear hF hd
      have hYi : (Y : Int) < 3 := by omega
      go_simp
      exact hK (updV (updV (updV v 8 (.slice (some ⟨g, 0, none⟩) 3 3)) 10 (.int .i64 (Y : Int))) 11 _) _ (by rw [updV_eq e8, updV_eq e10]; exact hJ.next 11 _ (by decide) hL hI (fun _ _ h => h) ⟨g, Y, rfl, hG, hY⟩)
    refine Steps.cons rfl (fun L v u hJ hL hd K hK => ?_) ?_
    · have hI := hJ.inv
      have hF := hJ.F (hJ.hN (by decide) hL)
      obtain ⟨g, Y, e11, hG, hY⟩ := hF 11 (hd ⟨11, .data⟩ (by simp) rfl)
      clear hF hd
      obtain ⟨y, hy⟩ := pro_at Y hY
      have f1 := hG.bx.2 Y _ hy
      go_simp
      exact hK (updV (updV v 11 (.pointer (some ⟨g, Y, none⟩))) 12 _) _ (by rw [updV_eq e11]; exact hJ.next 12 _ (by decide) hL hI (fun _ _ h => h) ⟨y, rfl⟩)
    refine Steps.cons rfl (fun L v u hJ hL hd K hK => ?_) ?_
    · have hI := hJ.inv
      clear hd
      go_simp
      exact hK (updV v 13 _) _ (hJ.next 13 _ (by decide) hL hI (fun _ _ h => h) rfl)
    refine Steps.cons rfl (fun L v u hJ hL hd K hK => ?_) ?_
    · have hI := hJ.inv
      have e13 : v 13 = .pointer (some ⟨b, 0, none⟩) := hJ.F (hJ.hN (by decide) hL) 13 (hd ⟨13, .data⟩ (by simp) rfl)
      clear hd
      go_simp
      refine (r_addr b C len cap _ hI.1).mono ?_
      rintro e u1 ⟨y, rfl, hy0, hy1, hR1, hO1⟩
      exact hK (updV (updV v 13 (.pointer (some ⟨b, 0, none⟩))) 14 _) _ (by rw [updV_eq e13]; exact hJ.next 14 _ (by decide) hL ⟨hR1, hI.2.trans hO1⟩ (ripF_only hO1) ⟨y, rfl⟩)
    refine Steps.cons rfl (fun L v u hJ hL hd K hK => ?_) ?_
    · have hI := hJ.inv
      clear hd
      go_simp
      exact hK (updV v 15 _) _ (hJ.next 15 _ (by decide) hL hI (fun _ _ h => h) rfl)
    refine Steps.cons rfl (fun L v u hJ hL hd K hK => ?_) ?_
    · have hI := hJ.inv
      have e15 : v 15 = .pointer (some ⟨b, 0, none⟩) := hJ.F (hJ.hN (by decide) hL) 15 (hd ⟨15, .data⟩ (by simp) rfl)
      clear hd
      go_simp
      refine (r_addr b C len cap _ hI.1).mono ?_
      rintro e u1 ⟨y, rfl, hy0, hy1, hR1, hO1⟩
      exact hK (updV (updV v 15 (.pointer (some ⟨b, 0, none⟩))) 16 _) _ (by rw [updV_eq e15]; exact hJ.next 16 _ (by decide) hL ⟨hR1, hI.2.trans hO1⟩ (ripF_only hO1) ⟨y, rfl⟩)
    refine Steps.cons rfl (fun L v u hJ hL hd K hK => ?_) ?_
    · have hI := hJ.inv
      clear hd
      go_simp
      exact hK (updV v 17 _) _ (hJ.next 17 _ (by decide) hL hI (fun _ _ h => h) rfl)
    refine Steps.cons rfl (fun L v u hJ hL hd K hK => ?_) ?_
    · have hI := hJ.inv
      have e17 : v 17 = .pointer (some ⟨b, 0, none⟩) := hJ.F (hJ.hN (by decide) hL) 17 (hd ⟨17, .data⟩ (by simp) rfl)
      clear hd
      go_simp
      refine (r_bytes b C len cap _ _ (by omega) (by omega) hI.1).mono ?_
      rintro e u1 ⟨l, rfl, hl, hR1, hO1⟩
      exact hK (updV (updV v 17 (.pointer (some ⟨b, 0, none⟩))) 18 _) _ (by rw [updV_eq e17]; exact hJ.next 18 _ (by decide) hL ⟨hR1, hI.2.trans hO1⟩ (ripF_only hO1) ⟨_, rfl, by rw [str_size]; omega⟩)
    refine Steps.cons rfl (fun L v u hJ hL hd K hK => ?_) ?_
    · have hI := hJ.inv
      have hF := hJ.F (hJ.hN (by decide) hL)
      obtain ⟨y1, e1⟩ := hF 1 (hd ⟨1, .data⟩ (by simp) rfl)
      obtain ⟨y3, e3⟩ := hF 3 (hd ⟨3, .data⟩ (by simp) rfl)
      obtain ⟨q5, e5⟩ := hF 5 (hd ⟨5, .data⟩ (by simp) rfl)
      obtain ⟨y7, e7⟩ := hF 7 (hd ⟨7, .data⟩ (by simp) rfl)
      obtain ⟨y12, e12⟩ := hF 12 (hd ⟨12, .data⟩ (by simp) rfl)
      obtain ⟨y14, e14⟩ := hF 14 (hd ⟨14, .data⟩ (by simp) rfl)
      obtain ⟨y16, e16⟩ := hF 16 (hd ⟨16, .data⟩ (by simp) rfl)
      obtain ⟨t, e18, ht⟩ := hF 18 (hd ⟨18, .data⟩ (by simp) rfl)
      clear hF hd
      go_simp
      exact hK (updV (updV (updV (updV (updV (updV (updV (updV (updV v 1 (.int .i64 y1)) 3 (.int .i64 y3)) 5 (.bool q5)) 7 (.int .i64 y7)) 12 (.int .i64 y12)) 14 (.int .i64 y14)) 16 (.int .i64 y16)) 18 (.string t)) 19 _) _ (by rw [updV_eq e1, updV_eq e3, updV_eq e5, updV_eq e7, updV_eq e12, updV_eq e14, updV_eq e16, updV_eq e18]; exact hJ.next 19 _ (by decide) hL hI (fun _ _ h => h) ⟨y1, y3, q5, y7, y12, y14, y16, t, rfl, ht⟩)
    refine Steps.cons rfl (fun L v u hJ hL hd K hK => ?_) ?_
    · have hI := hJ.inv
      clear hd
      go_simp
      exact hK (updV v 20 _) _ (hJ.next 20 _ (by decide) hL ⟨hI.1.alloc _, hI.2.alloc _⟩ (ripF_only ((Only.refl b u).alloc _)) ⟨_, rfl, OI.new hI.1.lt hI.2.size⟩)
    refine Steps.cons rfl (fun L v u hJ hL hd K hK => ?_) ?_
    · have hI := hJ.inv
      have hF := hJ.F hL
      obtain ⟨x0, x1, x2, x5, x6, x7, x8, t, e19, ht⟩ := hF 19 (hd ⟨19, .data⟩ (by simp) rfl)
      obtain ⟨g, e20, hG⟩ := hF 20 (hd ⟨20, .data⟩ (by simp) rfl)
      clear hF
      have z0 := hG.bx.2 0 _ rfl
      have z1 := hG.bx.2 1 _ rfl
      have z2 := hG.bx.2 2 _ rfl
      have z3 := hG.bx.2 3 _ rfl
      have z4 := hG.bx.2 4 _ rfl
      have z5 := hG.bx.2 5 _ rfl
      have z6 := hG.bx.2 6 _ rfl
      have z7 := hG.bx.2 7 _ rfl
      have z8 := hG.bx.2 8 _ rfl
      have z9 := hG.bx.2 9 _ rfl
      have z10 := hG.bx.2 10 _ rfl
      have q0 := hG.fx.2
      have hge := hG.le
      have hbl := hI.1.lt
      have hs1 := hI.2.size
      go_simp
      have hGs := (((((((((((hG.set 0 (.int .i64 x0)).set 1 (.int .i64 x1)).set 2 (.bool x2)).set 3 (.bool false)).set 4 (.int .i64 0)).set 5 (.int .i64 x5)).set 6 (.int .i64 x6)).set 7 (.int .i64 x7)).set 8 (.int .i64 x8)).set 9 (.string ⟨#[]⟩)).set 10 (.string t))
      have hRs := (rdi_setI (g := g) (j := 10) (v := .string t) (rdi_setI (g := g) (j := 9) (v := .string ⟨#[]⟩) (rdi_setI (g := g) (j := 8) (v := .int .i64 x8) (rdi_setI (g := g) (j := 7) (v := .int .i64 x7) (rdi_setI (g := g) (j := 6) (v := .int .i64 x6) (rdi_setI (g := g) (j := 5) (v := .int .i64 x5) (rdi_setI (g := g) (j := 4) (v := .int .i64 0) (rdi_setI (g := g) (j := 3) (v := .bool false) (rdi_setI (g := g) (j := 2) (v := .bool x2) (rdi_setI (g := g) (j := 1) (v := .int .i64 x1) (rdi_setI (g := g) (j := 0) (v := .int .i64 x0) hI.1 (by omega)) (by omega)) (by omega)) (by omega)) (by omega)) (by omega)) (by omega)) (by omega)) (by omega)) (by omega)) (by omega))
      have hOs := (only_setI (g := g) (j := 10) (v := .string t) (only_setI (g := g) (j := 9) (v := .string ⟨#[]⟩) (only_setI (g := g) (j := 8) (v := .int .i64 x8) (only_setI (g := g) (j := 7) (v := .int .i64 x7) (only_setI (g := g) (j := 6) (v := .int .i64 x6) (only_setI (g := g) (j := 5) (v := .int .i64 x5) (only_setI (g := g) (j := 4) (v := .int .i64 0) (only_setI (g := g) (j := 3) (v := .bool false) (only_setI (g := g) (j := 2) (v := .bool x2) (only_setI (g := g) (j := 1) (v := .int .i64 x1) (only_setI (g := g) (j := 0) (v := .int .i64 x0) hI.2 hge) hge) hge) hge) hge) hge) hge) hge) hge) hge) hge)
      refine hK (updV (updV v 19 (.agg #[.int .i64 x0, .int .i64 x1, .bool x2, .bool false, .int .i64 0, .int .i64 x5, .int .i64 x6, .int .i64 x7, .int .i64 x8, .string ⟨#[]⟩, .string t])) 20 (.pointer (some ⟨g, 0, none⟩))) _ ?_
      rw [updV_eq (v := updV v 19 _) (by rw [updV_eq e19]; exact e20), updV_eq e19]
      refine QJ.last ⟨hRs, hOs⟩ (fun j hj => ?_) ⟨g, x0, x1, x2, x5, x6, x7, x8, t, e20, hGs, ht⟩
      have hjs : j ∈ List.range 21 := by simpa using hj
      have hall : ∀ j ∈ List.range 21, L j = true := by
        simp only [List.range_succ, List.range_zero, List.nil_append, List.mem_append, List.mem_singleton]
        rintro j hj
        repeat (first | (rcases hj with hj | rfl; rotate_left; exact hd ⟨_, .phase⟩ (by simp) rfl) | (subst hj; exact hd ⟨_, .phase⟩ (by simp) rfl))
      exact hall j hjs
    exact Steps.nil
  case refine_3 =>
    intro L v u hJ hL
    obtain ⟨g, x0, x1, x2, x5, x6, x7, x8, t, eg, hX, ht⟩ := hJ.E (hL 21 (by decide))
    obtain ⟨hR1, hO1⟩ := hJ.inv
    clear hJ hL hR
    have hgl := hX.le
    replace hZ := hZ.only hO1; replace hO := hO.trans hO1; have hR := hR1; replace hs := Nat.le_trans hs hO1.size; clear hO1 hR1
    go_wp2_with fail
    refine (r_once b C len cap _ _ (by omega) (by omega) hR).mono ?_
    rintro e u1 ⟨q1, rfl, hR1, hO1⟩
    replace hZ := hZ.only hO1; replace hX := hX.only hO1; replace hO := hO.trans hO1; have hR := hR1; replace hs := Nat.le_trans hs hO1.size; clear hO1 hR1
    cases q1
    · skip
      go_wp2_with fail
      refine (r_once b C len cap _ _ (by omega) (by omega) hR).mono ?_
      rintro e u2 ⟨q2, rfl, hR1, hO1⟩
      replace hZ := hZ.only hO1; replace hX := hX.only hO1; replace hO := hO.trans hO1; have hR := hR1; replace hs := Nat.le_trans hs hO1.size; clear hO1 hR1
      cases q2
      · have y3 := hX.bx.2 3 _ rfl
        go_wp2_with fail
        refine (r_once b C len cap _ _ (by omega) (by omega) hR).mono ?_
        rintro e u3 ⟨q4, rfl, hR1, hO1⟩
        replace hZ := hZ.only hO1; replace hX := hX.only hO1; replace hO := hO.trans hO1; have hR := hR1; replace hs := Nat.le_trans hs hO1.size; clear hO1 hR1
        cases q4
        · skip
          have y0 := hX.bx.2 0 _ rfl; have y1 := hX.bx.2 1 _ rfl; have y2 := hX.bx.2 2 _ rfl; have y3 := hX.bx.2 3 _ rfl; have y4 := hX.bx.2 4 _ rfl; have y5 := hX.bx.2 5 _ rfl; have y6 := hX.bx.2 6 _ rfl; have y7 := hX.bx.2 7 _ rfl; have y8 := hX.bx.2 8 _ rfl; have y9 := hX.bx.2 9 _ rfl; have y10 := hX.bx.2 10 _ rfl
          have z0 := hZ.bx.2 0 _ rfl; have z1 := hZ.bx.2 1 _ rfl; have z2 := hZ.bx.2 2 _ rfl; have z3 := hZ.bx.2 3 _ rfl; have z4 := hZ.bx.2 4 _ rfl; have z5 := hZ.bx.2 5 _ rfl; have z6 := hZ.bx.2 6 _ rfl; have z7 := hZ.bx.2 7 _ rfl; have z8 := hZ.bx.2 8 _ rfl; have z9 := hZ.bx.2 9 _ rfl; have z10 := hZ.bx.2 10 _ rfl
          have f0 := hX.fx.2; have fz := hZ.fx.2
          have hn1 : ¬ (g = w.heap.size) := by omega
          have hn2 : ¬ (w.heap.size = g) := by omega
          have hKr : ∀ W, Below w.heap.size u3 W → RdI W b C len cap ∧ Only b w W := fun W h => ⟨hR.kept (h.mono (by omega)), hO.beyond (Nat.le_refl _) h⟩
          have hB0 := Below.refl w.heap.size u3
          have hsz : w.heap.size < u3.heap.size := by omega
          go_wp2
          refine bodyPost_ret (v := .agg #[.int .i64 x0, .int .i64 x1, .bool x2, .bool false, .int .i64 0, .int .i64 x5, .int .i64 x6, .int .i64 x7, .int .i64 x8, .string ⟨#[]⟩, .string t]) ?_ rfl ⟨⟨x0, x1, x2, false, 0, x5, x6, x7, x8, ⟨#[]⟩, t⟩, rfl, ?_, ?_, ?_, ?_, ?_, ?_⟩
          · simp [results, Try.results61, go_sem, z0, z1, z2, z3, z4, z5, z6, z7, z8, z9, z10]
          · first | exact hds | (dsimp only; omega)
          · first | (dsimp only; omega) | (show (⟨#[]⟩ : ByteArray).size ≤ 24; decide)
          · dsimp only; omega
          · dsimp only; omega
          · refine (hKr _ ?_).1
            go_grown
          · refine (hKr _ ?_).2
            go_grown
        · skip
          go_wp2_with fail
          refine (r_below b C len cap _ _ (by omega) hR).mono ?_
          rintro e u4 ⟨m, rfl, hm0, hm1, hR1, hO1⟩
          replace hZ := hZ.only hO1; replace hX := hX.only hO1; replace hO := hO.trans hO1; have hR := hR1; replace hs := Nat.le_trans hs hO1.size; clear hO1 hR1
          obtain ⟨M, rfl⟩ := Int.eq_ofNat_of_zero_le hm0
          have hw1 : IntKind.i64.wrap (8 * (M : Int)) = 8 * (M : Int) := wraps_i64 _ (by omega) (by omega)
          have hw2 : IntKind.i64.wrap (65480 + 8 * (M : Int)) = ((65480 + 8 * M : Nat) : Int) := (wraps_i64 _ (by omega) (by omega)).trans (by omega)
          have hgl2 := hR.lt
          go_wp2_with (at_make; refine wpList_make_bytes rfl _ _ rfl _ _ _ _ (65480 + 8 * M) rfl rfl (by omega) (by omega) (by omega) ?_; intro u5 hownB hbC; have hrl : (List.replicate (65480 + 8 * M) (0 : UInt8)).length ≤ 65600 := (by rw [List.length_replicate]; omega); generalize List.replicate (65480 + 8 * M) (0 : UInt8) = rl at hownB hrl; replace hX := hX.below hbC; replace hZ := hZ.below hbC; have hR := hR.far hbC; replace hO := hO.far hbC; replace hs := Nat.le_trans hs hbC.size; have hstr := run_string_own hownB; have y0 := hX.bx.2 0 _ rfl; have y1 := hX.bx.2 1 _ rfl; have y2 := hX.bx.2 2 _ rfl; have y3 := hX.bx.2 3 _ rfl; have y4 := hX.bx.2 4 _ rfl; have y5 := hX.bx.2 5 _ rfl; have y6 := hX.bx.2 6 _ rfl; have y7 := hX.bx.2 7 _ rfl; have y8 := hX.bx.2 8 _ rfl; have y9 := hX.bx.2 9 _ rfl; have y10 := hX.bx.2 10 _ rfl; have z0 := hZ.bx.2 0 _ rfl; have z1 := hZ.bx.2 1 _ rfl; have z2 := hZ.bx.2 2 _ rfl; have z3 := hZ.bx.2 3 _ rfl; have z4 := hZ.bx.2 4 _ rfl; have z5 := hZ.bx.2 5 _ rfl; have z6 := hZ.bx.2 6 _ rfl; have z7 := hZ.bx.2 7 _ rfl; have z8 := hZ.bx.2 8 _ rfl; have z9 := hZ.bx.2 9 _ rfl; have z10 := hZ.bx.2 10 _ rfl; have f0 := hX.fx.2; have fz := hZ.fx.2; have hgg := hX.bx.1; have hn1 : ¬ (g = w.heap.size) := (by omega); have hn2 : ¬ (w.heap.size = g) := (by omega); have hKr : ∀ W, Below w.heap.size u5 W → RdI W b C len cap ∧ Only b w W := (fun W h => ⟨hR.kept (h.mono (by omega)), hO.beyond (Nat.le_refl _) h⟩); have hB0 := Below.refl w.heap.size u5; have hsz : w.heap.size < u5.heap.size := (by omega))
          have hds : (str rl).size ≤ 65600 := by rw [str_size]; exact hrl
          refine bodyPost_ret (v := .agg #[.int .i64 x0, .int .i64 x1, .bool x2, .bool false, .int .i64 0, .int .i64 x5, .int .i64 x6, .int .i64 x7, .int .i64 x8, .string ⟨#[]⟩, .string (str rl)]) ?_ rfl ⟨⟨x0, x1, x2, false, 0, x5, x6, x7, x8, ⟨#[]⟩, (str rl)⟩, rfl, ?_, ?_, ?_, ?_, ?_, ?_⟩
          · simp [results, Try.results61, go_sem, z0, z1, z2, z3, z4, z5, z6, z7, z8, z9, z10]
          · first | exact hds | (dsimp only; omega)
          · first | (dsimp only; omega) | (show (⟨#[]⟩ : ByteArray).size ≤ 24; decide)
          · dsimp only; omega
          · dsimp only; omega
          · refine (hKr _ ?_).1
            go_grown
          · refine (hKr _ ?_).2
            go_grown
      · skip
        go_wp2_with fail
        refine (r_below b C len cap _ _ (by omega) hR).mono ?_
        rintro e u6 ⟨yo, rfl, ho0, ho1, hR1, hO1⟩
        replace hZ := hZ.only hO1; replace hX := hX.only hO1; replace hO := hO.trans hO1; have hR := hR1; replace hs := Nat.le_trans hs hO1.size; clear hO1 hR1
        have y4 := hX.bx.2 4 _ rfl; have f0 := hX.fx.2
        go_wp2_with fail
        clear y4
        clear f0
        replace hX : OI b w0.heap.size (u6.setCell ⟨g, 4, none⟩ (.int .i64 yo)) g [.int .i64 x0, .int .i64 x1, .bool x2, .bool false, .int .i64 yo, .int .i64 x5, .int .i64 x6, .int .i64 x7, .int .i64 x8, .string ⟨#[]⟩, .string t] := hX.set 4 (.int .i64 yo)
        replace hZ := hZ.beside (c := g) (j := 4) (by omega) (.int .i64 yo)
        replace hR := rdi_setI (g := g) (j := 4) (v := .int .i64 yo) hR (by omega)
        replace hO := only_setI (g := g) (j := 4) (v := .int .i64 yo) hO (by omega)
        replace hs : w0.heap.size ≤ (u6.setCell ⟨g, 4, none⟩ (.int .i64 yo)).heap.size := by simpa using hs
        generalize u6.setCell ⟨g, 4, none⟩ (.int .i64 yo) = u7 at *
        refine (r_once b C len cap _ _ (by omega) (by omega) hR).mono ?_
        rintro e u8 ⟨q3, rfl, hR1, hO1⟩
        replace hZ := hZ.only hO1; replace hX := hX.only hO1; replace hO := hO.trans hO1; have hR := hR1; replace hs := Nat.le_trans hs hO1.size; clear hO1 hR1
        have y3 := hX.bx.2 3 _ rfl; have f0 := hX.fx.2
        cases q3
        · go_wp2_with fail
          clear y3
          clear f0
          replace hX : OI b w0.heap.size (u8.setCell ⟨g, 3, none⟩ (.bool false)) g [.int .i64 x0, .int .i64 x1, .bool x2, .bool false, .int .i64 yo, .int .i64 x5, .int .i64 x6, .int .i64 x7, .int .i64 x8, .string ⟨#[]⟩, .string t] := hX.set 3 (.bool false)
          replace hZ := hZ.beside (c := g) (j := 3) (by omega) (.bool false)
          replace hR := rdi_setI (g := g) (j := 3) (v := .bool false) hR (by omega)
          replace hO := only_setI (g := g) (j := 3) (v := .bool false) hO (by omega)
          replace hs : w0.heap.size ≤ (u8.setCell ⟨g, 3, none⟩ (.bool false)).heap.size := by simpa using hs
          generalize u8.setCell ⟨g, 3, none⟩ (.bool false) = u9 at *
          refine (r_once b C len cap _ _ (by omega) (by omega) hR).mono ?_
          rintro e u11 ⟨q4, rfl, hR1, hO1⟩
          replace hZ := hZ.only hO1; replace hX := hX.only hO1; replace hO := hO.trans hO1; have hR := hR1; replace hs := Nat.le_trans hs hO1.size; clear hO1 hR1
          cases q4
          · skip
            have y0 := hX.bx.2 0 _ rfl; have y1 := hX.bx.2 1 _ rfl; have y2 := hX.bx.2 2 _ rfl; have y3 := hX.bx.2 3 _ rfl; have y4 := hX.bx.2 4 _ rfl; have y5 := hX.bx.2 5 _ rfl; have y6 := hX.bx.2 6 _ rfl; have y7 := hX.bx.2 7 _ rfl; have y8 := hX.bx.2 8 _ rfl; have y9 := hX.bx.2 9 _ rfl; have y10 := hX.bx.2 10 _ rfl
            have z0 := hZ.bx.2 0 _ rfl; have z1 := hZ.bx.2 1 _ rfl; have z2 := hZ.bx.2 2 _ rfl; have z3 := hZ.bx.2 3 _ rfl; have z4 := hZ.bx.2 4 _ rfl; have z5 := hZ.bx.2 5 _ rfl; have z6 := hZ.bx.2 6 _ rfl; have z7 := hZ.bx.2 7 _ rfl; have z8 := hZ.bx.2 8 _ rfl; have z9 := hZ.bx.2 9 _ rfl; have z10 := hZ.bx.2 10 _ rfl
            have f0 := hX.fx.2; have fz := hZ.fx.2
            have hn1 : ¬ (g = w.heap.size) := by omega
            have hn2 : ¬ (w.heap.size = g) := by omega
            have hKr : ∀ W, Below w.heap.size u11 W → RdI W b C len cap ∧ Only b w W := fun W h => ⟨hR.kept (h.mono (by omega)), hO.beyond (Nat.le_refl _) h⟩
            have hB0 := Below.refl w.heap.size u11
            have hsz : w.heap.size < u11.heap.size := by omega
            go_wp2
            refine bodyPost_ret (v := .agg #[.int .i64 x0, .int .i64 x1, .bool x2, .bool false, .int .i64 yo, .int .i64 x5, .int .i64 x6, .int .i64 x7, .int .i64 x8, .string ⟨#[]⟩, .string t]) ?_ rfl ⟨⟨x0, x1, x2, false, yo, x5, x6, x7, x8, ⟨#[]⟩, t⟩, rfl, ?_, ?_, ?_, ?_, ?_, ?_⟩
            · simp [results, Try.results61, go_sem, z0, z1, z2, z3, z4, z5, z6, z7, z8, z9, z10]
            · first | exact hds | (dsimp only; omega)
            · first | (dsimp only; omega) | (show (⟨#[]⟩ : ByteArray).size ≤ 24; decide)
            · dsimp only; omega
            · dsimp only; omega
            · refine (hKr _ ?_).1
              go_grown
            · refine (hKr _ ?_).2
              go_grown
          · skip
            go_wp2_with fail
            refine (r_below b C len cap _ _ (by omega) hR).mono ?_
            rintro e u12 ⟨m, rfl, hm0, hm1, hR1, hO1⟩
            replace hZ := hZ.only hO1; replace hX := hX.only hO1; replace hO := hO.trans hO1; have hR := hR1; replace hs := Nat.le_trans hs hO1.size; clear hO1 hR1
            obtain ⟨M, rfl⟩ := Int.eq_ofNat_of_zero_le hm0
            have hw1 : IntKind.i64.wrap (8 * (M : Int)) = 8 * (M : Int) := wraps_i64 _ (by omega) (by omega)
            have hw2 : IntKind.i64.wrap (65480 + 8 * (M : Int)) = ((65480 + 8 * M : Nat) : Int) := (wraps_i64 _ (by omega) (by omega)).trans (by omega)
            have hgl2 := hR.lt
            go_wp2_with (at_make; refine wpList_make_bytes rfl _ _ rfl _ _ _ _ (65480 + 8 * M) rfl rfl (by omega) (by omega) (by omega) ?_; intro u13 hownB hbC; have hrl : (List.replicate (65480 + 8 * M) (0 : UInt8)).length ≤ 65600 := (by rw [List.length_replicate]; omega); generalize List.replicate (65480 + 8 * M) (0 : UInt8) = rl at hownB hrl; replace hX := hX.below hbC; replace hZ := hZ.below hbC; have hR := hR.far hbC; replace hO := hO.far hbC; replace hs := Nat.le_trans hs hbC.size; have hstr := run_string_own hownB; have y0 := hX.bx.2 0 _ rfl; have y1 := hX.bx.2 1 _ rfl; have y2 := hX.bx.2 2 _ rfl; have y3 := hX.bx.2 3 _ rfl; have y4 := hX.bx.2 4 _ rfl; have y5 := hX.bx.2 5 _ rfl; have y6 := hX.bx.2 6 _ rfl; have y7 := hX.bx.2 7 _ rfl; have y8 := hX.bx.2 8 _ rfl; have y9 := hX.bx.2 9 _ rfl; have y10 := hX.bx.2 10 _ rfl; have z0 := hZ.bx.2 0 _ rfl; have z1 := hZ.bx.2 1 _ rfl; have z2 := hZ.bx.2 2 _ rfl; have z3 := hZ.bx.2 3 _ rfl; have z4 := hZ.bx.2 4 _ rfl; have z5 := hZ.bx.2 5 _ rfl; have z6 := hZ.bx.2 6 _ rfl; have z7 := hZ.bx.2 7 _ rfl; have z8 := hZ.bx.2 8 _ rfl; have z9 := hZ.bx.2 9 _ rfl; have z10 := hZ.bx.2 10 _ rfl; have f0 := hX.fx.2; have fz := hZ.fx.2; have hgg := hX.bx.1; have hn1 : ¬ (g = w.heap.size) := (by omega); have hn2 : ¬ (w.heap.size = g) := (by omega); have hKr : ∀ W, Below w.heap.size u13 W → RdI W b C len cap ∧ Only b w W := (fun W h => ⟨hR.kept (h.mono (by omega)), hO.beyond (Nat.le_refl _) h⟩); have hB0 := Below.refl w.heap.size u13; have hsz : w.heap.size < u13.heap.size := (by omega))
            have hds : (str rl).size ≤ 65600 := by rw [str_size]; exact hrl
            refine bodyPost_ret (v := .agg #[.int .i64 x0, .int .i64 x1, .bool x2, .bool false, .int .i64 yo, .int .i64 x5, .int .i64 x6, .int .i64 x7, .int .i64 x8, .string ⟨#[]⟩, .string (str rl)]) ?_ rfl ⟨⟨x0, x1, x2, false, yo, x5, x6, x7, x8, ⟨#[]⟩, (str rl)⟩, rfl, ?_, ?_, ?_, ?_, ?_, ?_⟩
            · simp [results, Try.results61, go_sem, z0, z1, z2, z3, z4, z5, z6, z7, z8, z9, z10]
            · first | exact hds | (dsimp only; omega)
            · first | (dsimp only; omega) | (show (⟨#[]⟩ : ByteArray).size ≤ 24; decide)
            · dsimp only; omega
            · dsimp only; omega
            · refine (hKr _ ?_).1
              go_grown
            · refine (hKr _ ?_).2
              go_grown
        · have y10 := hX.bx.2 10 _ rfl
          have hq1 : (t.size : Int) / 8 * 8 ≤ t.size := by omega
          have hq2 : IntKind.i64.wrap ((t.size : Int) / 8) = (t.size : Int) / 8 := wraps_i64 _ (by omega) (by omega)
          have hq3 : IntKind.i64.wrap ((t.size : Int) / 8 * 8) = (t.size : Int) / 8 * 8 := wraps_i64 _ (by omega) (by omega)
          go_wp2_with fail
          clear y10 y3
          clear f0
          replace hX : OI b w0.heap.size (u8.setCell ⟨g, 3, none⟩ (.bool true)) g [.int .i64 x0, .int .i64 x1, .bool x2, .bool true, .int .i64 yo, .int .i64 x5, .int .i64 x6, .int .i64 x7, .int .i64 x8, .string ⟨#[]⟩, .string t] := hX.set 3 (.bool true)
          replace hZ := hZ.beside (c := g) (j := 3) (by omega) (.bool true)
          replace hR := rdi_setI (g := g) (j := 3) (v := .bool true) hR (by omega)
          replace hO := only_setI (g := g) (j := 3) (v := .bool true) hO (by omega)
          replace hs : w0.heap.size ≤ (u8.setCell ⟨g, 3, none⟩ (.bool true)).heap.size := by simpa using hs
          generalize u8.setCell ⟨g, 3, none⟩ (.bool true) = u14 at *
          replace hX : OI b w0.heap.size (u14.setCell ⟨g, 10, none⟩ (.string (t.extract 0 (t.size / 8 * 8)))) g [.int .i64 x0, .int .i64 x1, .bool x2, .bool true, .int .i64 yo, .int .i64 x5, .int .i64 x6, .int .i64 x7, .int .i64 x8, .string ⟨#[]⟩, .string (t.extract 0 (t.size / 8 * 8))] := hX.set 10 (.string (t.extract 0 (t.size / 8 * 8)))
          replace hZ := hZ.beside (c := g) (j := 10) (by omega) (.string (t.extract 0 (t.size / 8 * 8)))
          replace hR := rdi_setI (g := g) (j := 10) (v := .string (t.extract 0 (t.size / 8 * 8))) hR (by omega)
          replace hO := only_setI (g := g) (j := 10) (v := .string (t.extract 0 (t.size / 8 * 8))) hO (by omega)
          replace hs : w0.heap.size ≤ (u14.setCell ⟨g, 10, none⟩ (.string (t.extract 0 (t.size / 8 * 8)))).heap.size := by simpa using hs
          generalize u14.setCell ⟨g, 10, none⟩ (.string (t.extract 0 (t.size / 8 * 8))) = u15 at *
          have hte : (t.extract 0 (t.size / 8 * 8)).size ≤ 90 := by rw [ByteArray.size_extract]; omega
          generalize t.extract 0 (t.size / 8 * 8) = tx at *
          refine (r_once b C len cap _ _ (by omega) (by omega) hR).mono ?_
          rintro e u17 ⟨q4, rfl, hR1, hO1⟩
          replace hZ := hZ.only hO1; replace hX := hX.only hO1; replace hO := hO.trans hO1; have hR := hR1; replace hs := Nat.le_trans hs hO1.size; clear hO1 hR1
          cases q4
          · skip
            have y0 := hX.bx.2 0 _ rfl; have y1 := hX.bx.2 1 _ rfl; have y2 := hX.bx.2 2 _ rfl; have y3 := hX.bx.2 3 _ rfl; have y4 := hX.bx.2 4 _ rfl; have y5 := hX.bx.2 5 _ rfl; have y6 := hX.bx.2 6 _ rfl; have y7 := hX.bx.2 7 _ rfl; have y8 := hX.bx.2 8 _ rfl; have y9 := hX.bx.2 9 _ rfl; have y10 := hX.bx.2 10 _ rfl
            have z0 := hZ.bx.2 0 _ rfl; have z1 := hZ.bx.2 1 _ rfl; have z2 := hZ.bx.2 2 _ rfl; have z3 := hZ.bx.2 3 _ rfl; have z4 := hZ.bx.2 4 _ rfl; have z5 := hZ.bx.2 5 _ rfl; have z6 := hZ.bx.2 6 _ rfl; have z7 := hZ.bx.2 7 _ rfl; have z8 := hZ.bx.2 8 _ rfl; have z9 := hZ.bx.2 9 _ rfl; have z10 := hZ.bx.2 10 _ rfl
            have f0 := hX.fx.2; have fz := hZ.fx.2
            have hn1 : ¬ (g = w.heap.size) := by omega
            have hn2 : ¬ (w.heap.size = g) := by omega
            have hKr : ∀ W, Below w.heap.size u17 W → RdI W b C len cap ∧ Only b w W := fun W h => ⟨hR.kept (h.mono (by omega)), hO.beyond (Nat.le_refl _) h⟩
            have hB0 := Below.refl w.heap.size u17
            have hsz : w.heap.size < u17.heap.size := by omega
            go_wp2
            refine bodyPost_ret (v := .agg #[.int .i64 x0, .int .i64 x1, .bool x2, .bool true, .int .i64 yo, .int .i64 x5, .int .i64 x6, .int .i64 x7, .int .i64 x8, .string ⟨#[]⟩, .string tx]) ?_ rfl ⟨⟨x0, x1, x2, true, yo, x5, x6, x7, x8, ⟨#[]⟩, tx⟩, rfl, ?_, ?_, ?_, ?_, ?_, ?_⟩
            · simp [results, Try.results61, go_sem, z0, z1, z2, z3, z4, z5, z6, z7, z8, z9, z10]
            · first | exact hds | (dsimp only; omega)
            · first | (dsimp only; omega) | (show (⟨#[]⟩ : ByteArray).size ≤ 24; decide)
            · dsimp only; omega
            · dsimp only; omega
            · refine (hKr _ ?_).1
              go_grown
            · refine (hKr _ ?_).2
              go_grown
          · skip
            go_wp2_with fail
            refine (r_below b C len cap _ _ (by omega) hR).mono ?_
            rintro e u18 ⟨m, rfl, hm0, hm1, hR1, hO1⟩
            replace hZ := hZ.only hO1; replace hX := hX.only hO1; replace hO := hO.trans hO1; have hR := hR1; replace hs := Nat.le_trans hs hO1.size; clear hO1 hR1
            obtain ⟨M, rfl⟩ := Int.eq_ofNat_of_zero_le hm0
            have hw1 : IntKind.i64.wrap (8 * (M : Int)) = 8 * (M : Int) := wraps_i64 _ (by omega) (by omega)
            have hw2 : IntKind.i64.wrap (65480 + 8 * (M : Int)) = ((65480 + 8 * M : Nat) : Int) := (wraps_i64 _ (by omega) (by omega)).trans (by omega)
            have hgl2 := hR.lt
            go_wp2_with (at_make; refine wpList_make_bytes rfl _ _ rfl _ _ _ _ (65480 + 8 * M) rfl rfl (by omega) (by omega) (by omega) ?_; intro u19 hownB hbC; have hrl : (List.replicate (65480 + 8 * M) (0 : UInt8)).length ≤ 65600 := (by rw [List.length_replicate]; omega); generalize List.replicate (65480 + 8 * M) (0 : UInt8) = rl at hownB hrl; replace hX := hX.below hbC; replace hZ := hZ.below hbC; have hR := hR.far hbC; replace hO := hO.far hbC; replace hs := Nat.le_trans hs hbC.size; have hstr := run_string_own hownB; have y0 := hX.bx.2 0 _ rfl; have y1 := hX.bx.2 1 _ rfl; have y2 := hX.bx.2 2 _ rfl; have y3 := hX.bx.2 3 _ rfl; have y4 := hX.bx.2 4 _ rfl; have y5 := hX.bx.2 5 _ rfl; have y6 := hX.bx.2 6 _ rfl; have y7 := hX.bx.2 7 _ rfl; have y8 := hX.bx.2 8 _ rfl; have y9 := hX.bx.2 9 _ rfl; have y10 := hX.bx.2 10 _ rfl; have z0 := hZ.bx.2 0 _ rfl; have z1 := hZ.bx.2 1 _ rfl; have z2 := hZ.bx.2 2 _ rfl; have z3 := hZ.bx.2 3 _ rfl; have z4 := hZ.bx.2 4 _ rfl; have z5 := hZ.bx.2 5 _ rfl; have z6 := hZ.bx.2 6 _ rfl; have z7 := hZ.bx.2 7 _ rfl; have z8 := hZ.bx.2 8 _ rfl; have z9 := hZ.bx.2 9 _ rfl; have z10 := hZ.bx.2 10 _ rfl; have f0 := hX.fx.2; have fz := hZ.fx.2; have hgg := hX.bx.1; have hn1 : ¬ (g = w.heap.size) := (by omega); have hn2 : ¬ (w.heap.size = g) := (by omega); have hKr : ∀ W, Below w.heap.size u19 W → RdI W b C len cap ∧ Only b w W := (fun W h => ⟨hR.kept (h.mono (by omega)), hO.beyond (Nat.le_refl _) h⟩); have hB0 := Below.refl w.heap.size u19; have hsz : w.heap.size < u19.heap.size := (by omega))
            have hds : (str rl).size ≤ 65600 := by rw [str_size]; exact hrl
            refine bodyPost_ret (v := .agg #[.int .i64 x0, .int .i64 x1, .bool x2, .bool true, .int .i64 yo, .int .i64 x5, .int .i64 x6, .int .i64 x7, .int .i64 x8, .string ⟨#[]⟩, .string (str rl)]) ?_ rfl ⟨⟨x0, x1, x2, true, yo, x5, x6, x7, x8, ⟨#[]⟩, (str rl)⟩, rfl, ?_, ?_, ?_, ?_, ?_, ?_⟩
            · simp [results, Try.results61, go_sem, z0, z1, z2, z3, z4, z5, z6, z7, z8, z9, z10]
            · first | exact hds | (dsimp only; omega)
            · first | (dsimp only; omega) | (show (⟨#[]⟩ : ByteArray).size ≤ 24; decide)
            · dsimp only; omega
            · dsimp only; omega
            · refine (hKr _ ?_).1
              go_grown
            · refine (hKr _ ?_).2
              go_grown
    · skip
      go_wp2_with fail
      refine (r_opts b C len cap _ hR).mono ?_
      rintro e u20 ⟨to, rfl, hto, hR1, hO1⟩
      replace hZ := hZ.only hO1; replace hX := hX.only hO1; replace hO := hO.trans hO1; have hR := hR1; replace hs := Nat.le_trans hs hO1.size; clear hO1 hR1
      have y9 := hX.bx.2 9 _ rfl; have f0 := hX.fx.2
      go_wp2_with fail
      clear y9
      clear f0
      replace hX : OI b w0.heap.size (u20.setCell ⟨g, 9, none⟩ (.string to)) g [.int .i64 x0, .int .i64 x1, .bool x2, .bool false, .int .i64 0, .int .i64 x5, .int .i64 x6, .int .i64 x7, .int .i64 x8, .string to, .string t] := hX.set 9 (.string to)
      replace hZ := hZ.beside (c := g) (j := 9) (by omega) (.string to)
      replace hR := rdi_setI (g := g) (j := 9) (v := .string to) hR (by omega)
      replace hO := only_setI (g := g) (j := 9) (v := .string to) hO (by omega)
      replace hs : w0.heap.size ≤ (u20.setCell ⟨g, 9, none⟩ (.string to)).heap.size := by simpa using hs
      generalize u20.setCell ⟨g, 9, none⟩ (.string to) = u21 at *
      refine (r_once b C len cap _ _ (by omega) (by omega) hR).mono ?_
      rintro e u22 ⟨q2, rfl, hR1, hO1⟩
      replace hZ := hZ.only hO1; replace hX := hX.only hO1; replace hO := hO.trans hO1; have hR := hR1; replace hs := Nat.le_trans hs hO1.size; clear hO1 hR1
      cases q2
      · have y3 := hX.bx.2 3 _ rfl
        go_wp2_with fail
        refine (r_once b C len cap _ _ (by omega) (by omega) hR).mono ?_
        rintro e u23 ⟨q4, rfl, hR1, hO1⟩
        replace hZ := hZ.only hO1; replace hX := hX.only hO1; replace hO := hO.trans hO1; have hR := hR1; replace hs := Nat.le_trans hs hO1.size; clear hO1 hR1
        cases q4
        · skip
          have y0 := hX.bx.2 0 _ rfl; have y1 := hX.bx.2 1 _ rfl; have y2 := hX.bx.2 2 _ rfl; have y3 := hX.bx.2 3 _ rfl; have y4 := hX.bx.2 4 _ rfl; have y5 := hX.bx.2 5 _ rfl; have y6 := hX.bx.2 6 _ rfl; have y7 := hX.bx.2 7 _ rfl; have y8 := hX.bx.2 8 _ rfl; have y9 := hX.bx.2 9 _ rfl; have y10 := hX.bx.2 10 _ rfl
          have z0 := hZ.bx.2 0 _ rfl; have z1 := hZ.bx.2 1 _ rfl; have z2 := hZ.bx.2 2 _ rfl; have z3 := hZ.bx.2 3 _ rfl; have z4 := hZ.bx.2 4 _ rfl; have z5 := hZ.bx.2 5 _ rfl; have z6 := hZ.bx.2 6 _ rfl; have z7 := hZ.bx.2 7 _ rfl; have z8 := hZ.bx.2 8 _ rfl; have z9 := hZ.bx.2 9 _ rfl; have z10 := hZ.bx.2 10 _ rfl
          have f0 := hX.fx.2; have fz := hZ.fx.2
          have hn1 : ¬ (g = w.heap.size) := by omega
          have hn2 : ¬ (w.heap.size = g) := by omega
          have hKr : ∀ W, Below w.heap.size u23 W → RdI W b C len cap ∧ Only b w W := fun W h => ⟨hR.kept (h.mono (by omega)), hO.beyond (Nat.le_refl _) h⟩
          have hB0 := Below.refl w.heap.size u23
          have hsz : w.heap.size < u23.heap.size := by omega
          go_wp2
          refine bodyPost_ret (v := .agg #[.int .i64 x0, .int .i64 x1, .bool x2, .bool false, .int .i64 0, .int .i64 x5, .int .i64 x6, .int .i64 x7, .int .i64 x8, .string to, .string t]) ?_ rfl ⟨⟨x0, x1, x2, false, 0, x5, x6, x7, x8, to, t⟩, rfl, ?_, ?_, ?_, ?_, ?_, ?_⟩
          · simp [results, Try.results61, go_sem, z0, z1, z2, z3, z4, z5, z6, z7, z8, z9, z10]
          · first | exact hds | (dsimp only; omega)
          · first | (dsimp only; omega) | (show (⟨#[]⟩ : ByteArray).size ≤ 24; decide)
          · dsimp only; omega
          · dsimp only; omega
          · refine (hKr _ ?_).1
            go_grown
          · refine (hKr _ ?_).2
            go_grown
        · skip
          go_wp2_with fail
          refine (r_below b C len cap _ _ (by omega) hR).mono ?_
          rintro e u24 ⟨m, rfl, hm0, hm1, hR1, hO1⟩
          replace hZ := hZ.only hO1; replace hX := hX.only hO1; replace hO := hO.trans hO1; have hR := hR1; replace hs := Nat.le_trans hs hO1.size; clear hO1 hR1
          obtain ⟨M, rfl⟩ := Int.eq_ofNat_of_zero_le hm0
          have hw1 : IntKind.i64.wrap (8 * (M : Int)) = 8 * (M : Int) := wraps_i64 _ (by omega) (by omega)
          have hw2 : IntKind.i64.wrap (65480 + 8 * (M : Int)) = ((65480 + 8 * M : Nat) : Int) := (wraps_i64 _ (by omega) (by omega)).trans (by omega)
          have hgl2 := hR.lt
          go_wp2_with (at_make; refine wpList_make_bytes rfl _ _ rfl _ _ _ _ (65480 + 8 * M) rfl rfl (by omega) (by omega) (by omega) ?_; intro u25 hownB hbC; have hrl : (List.replicate (65480 + 8 * M) (0 : UInt8)).length ≤ 65600 := (by rw [List.length_replicate]; omega); generalize List.replicate (65480 + 8 * M) (0 : UInt8) = rl at hownB hrl; replace hX := hX.below hbC; replace hZ := hZ.below hbC; have hR := hR.far hbC; replace hO := hO.far hbC; replace hs := Nat.le_trans hs hbC.size; have hstr := run_string_own hownB; have y0 := hX.bx.2 0 _ rfl; have y1 := hX.bx.2 1 _ rfl; have y2 := hX.bx.2 2 _ rfl; have y3 := hX.bx.2 3 _ rfl; have y4 := hX.bx.2 4 _ rfl; have y5 := hX.bx.2 5 _ rfl; have y6 := hX.bx.2 6 _ rfl; have y7 := hX.bx.2 7 _ rfl; have y8 := hX.bx.2 8 _ rfl; have y9 := hX.bx.2 9 _ rfl; have y10 := hX.bx.2 10 _ rfl; have z0 := hZ.bx.2 0 _ rfl; have z1 := hZ.bx.2 1 _ rfl; have z2 := hZ.bx.2 2 _ rfl; have z3 := hZ.bx.2 3 _ rfl; have z4 := hZ.bx.2 4 _ rfl; have z5 := hZ.bx.2 5 _ rfl; have z6 := hZ.bx.2 6 _ rfl; have z7 := hZ.bx.2 7 _ rfl; have z8 := hZ.bx.2 8 _ rfl; have z9 := hZ.bx.2 9 _ rfl; have z10 := hZ.bx.2 10 _ rfl; have f0 := hX.fx.2; have fz := hZ.fx.2; have hgg := hX.bx.1; have hn1 : ¬ (g = w.heap.size) := (by omega); have hn2 : ¬ (w.heap.size = g) := (by omega); have hKr : ∀ W, Below w.heap.size u25 W → RdI W b C len cap ∧ Only b w W := (fun W h => ⟨hR.kept (h.mono (by omega)), hO.beyond (Nat.le_refl _) h⟩); have hB0 := Below.refl w.heap.size u25; have hsz : w.heap.size < u25.heap.size := (by omega))
          have hds : (str rl).size ≤ 65600 := by rw [str_size]; exact hrl
          refine bodyPost_ret (v := .agg #[.int .i64 x0, .int .i64 x1, .bool x2, .bool false, .int .i64 0, .int .i64 x5, .int .i64 x6, .int .i64 x7, .int .i64 x8, .string to, .string (str rl)]) ?_ rfl ⟨⟨x0, x1, x2, false, 0, x5, x6, x7, x8, to, (str rl)⟩, rfl, ?_, ?_, ?_, ?_, ?_, ?_⟩
          · simp [results, Try.results61, go_sem, z0, z1, z2, z3, z4, z5, z6, z7, z8, z9, z10]
          · first | exact hds | (dsimp only; omega)
          · first | (dsimp only; omega) | (show (⟨#[]⟩ : ByteArray).size ≤ 24; decide)
          · dsimp only; omega
          · dsimp only; omega
          · refine (hKr _ ?_).1
            go_grown
          · refine (hKr _ ?_).2
            go_grown
      · skip
        go_wp2_with fail
        refine (r_below b C len cap _ _ (by omega) hR).mono ?_
        rintro e u26 ⟨yo, rfl, ho0, ho1, hR1, hO1⟩
        replace hZ := hZ.only hO1; replace hX := hX.only hO1; replace hO := hO.trans hO1; have hR := hR1; replace hs := Nat.le_trans hs hO1.size; clear hO1 hR1
        have y4 := hX.bx.2 4 _ rfl; have f0 := hX.fx.2
        go_wp2_with fail
        clear y4
        clear f0
        replace hX : OI b w0.heap.size (u26.setCell ⟨g, 4, none⟩ (.int .i64 yo)) g [.int .i64 x0, .int .i64 x1, .bool x2, .bool false, .int .i64 yo, .int .i64 x5, .int .i64 x6, .int .i64 x7, .int .i64 x8, .string to, .string t] := hX.set 4 (.int .i64 yo)
        replace hZ := hZ.beside (c := g) (j := 4) (by omega) (.int .i64 yo)
        replace hR := rdi_setI (g := g) (j := 4) (v := .int .i64 yo) hR (by omega)
        replace hO := only_setI (g := g) (j := 4) (v := .int .i64 yo) hO (by omega)
        replace hs : w0.heap.size ≤ (u26.setCell ⟨g, 4, none⟩ (.int .i64 yo)).heap.size := by simpa using hs
        generalize u26.setCell ⟨g, 4, none⟩ (.int .i64 yo) = u27 at *
        refine (r_once b C len cap _ _ (by omega) (by omega) hR).mono ?_
        rintro e u28 ⟨q3, rfl, hR1, hO1⟩
        replace hZ := hZ.only hO1; replace hX := hX.only hO1; replace hO := hO.trans hO1; have hR := hR1; replace hs := Nat.le_trans hs hO1.size; clear hO1 hR1
        have y3 := hX.bx.2 3 _ rfl; have f0 := hX.fx.2
        cases q3
        · go_wp2_with fail
          clear y3
          clear f0
          replace hX : OI b w0.heap.size (u28.setCell ⟨g, 3, none⟩ (.bool false)) g [.int .i64 x0, .int .i64 x1, .bool x2, .bool false, .int .i64 yo, .int .i64 x5, .int .i64 x6, .int .i64 x7, .int .i64 x8, .string to, .string t] := hX.set 3 (.bool false)
          replace hZ := hZ.beside (c := g) (j := 3) (by omega) (.bool false)
          replace hR := rdi_setI (g := g) (j := 3) (v := .bool false) hR (by omega)
          replace hO := only_setI (g := g) (j := 3) (v := .bool false) hO (by omega)
          replace hs : w0.heap.size ≤ (u28.setCell ⟨g, 3, none⟩ (.bool false)).heap.size := by simpa using hs
          generalize u28.setCell ⟨g, 3, none⟩ (.bool false) = u29 at *
          refine (r_once b C len cap _ _ (by omega) (by omega) hR).mono ?_
          rintro e u31 ⟨q4, rfl, hR1, hO1⟩
          replace hZ := hZ.only hO1; replace hX := hX.only hO1; replace hO := hO.trans hO1; have hR := hR1; replace hs := Nat.le_trans hs hO1.size; clear hO1 hR1
          cases q4
          · skip
            have y0 := hX.bx.2 0 _ rfl; have y1 := hX.bx.2 1 _ rfl; have y2 := hX.bx.2 2 _ rfl; have y3 := hX.bx.2 3 _ rfl; have y4 := hX.bx.2 4 _ rfl; have y5 := hX.bx.2 5 _ rfl; have y6 := hX.bx.2 6 _ rfl; have y7 := hX.bx.2 7 _ rfl; have y8 := hX.bx.2 8 _ rfl; have y9 := hX.bx.2 9 _ rfl; have y10 := hX.bx.2 10 _ rfl
            have z0 := hZ.bx.2 0 _ rfl; have z1 := hZ.bx.2 1 _ rfl; have z2 := hZ.bx.2 2 _ rfl; have z3 := hZ.bx.2 3 _ rfl; have z4 := hZ.bx.2 4 _ rfl; have z5 := hZ.bx.2 5 _ rfl; have z6 := hZ.bx.2 6 _ rfl; have z7 := hZ.bx.2 7 _ rfl; have z8 := hZ.bx.2 8 _ rfl; have z9 := hZ.bx.2 9 _ rfl; have z10 := hZ.bx.2 10 _ rfl
            have f0 := hX.fx.2; have fz := hZ.fx.2
            have hn1 : ¬ (g = w.heap.size) := by omega
            have hn2 : ¬ (w.heap.size = g) := by omega
            have hKr : ∀ W, Below w.heap.size u31 W → RdI W b C len cap ∧ Only b w W := fun W h => ⟨hR.kept (h.mono (by omega)), hO.beyond (Nat.le_refl _) h⟩
            have hB0 := Below.refl w.heap.size u31
            have hsz : w.heap.size < u31.heap.size := by omega
            go_wp2
            refine bodyPost_ret (v := .agg #[.int .i64 x0, .int .i64 x1, .bool x2, .bool false, .int .i64 yo, .int .i64 x5, .int .i64 x6, .int .i64 x7, .int .i64 x8, .string to, .string t]) ?_ rfl ⟨⟨x0, x1, x2, false, yo, x5, x6, x7, x8, to, t⟩, rfl, ?_, ?_, ?_, ?_, ?_, ?_⟩
            · simp [results, Try.results61, go_sem, z0, z1, z2, z3, z4, z5, z6, z7, z8, z9, z10]
            · first | exact hds | (dsimp only; omega)
            · first | (dsimp only; omega) | (show (⟨#[]⟩ : ByteArray).size ≤ 24; decide)
            · dsimp only; omega
            · dsimp only; omega
            · refine (hKr _ ?_).1
              go_grown
            · refine (hKr _ ?_).2
              go_grown
          · skip
            go_wp2_with fail
            refine (r_below b C len cap _ _ (by omega) hR).mono ?_
            rintro e u32 ⟨m, rfl, hm0, hm1, hR1, hO1⟩
            replace hZ := hZ.only hO1; replace hX := hX.only hO1; replace hO := hO.trans hO1; have hR := hR1; replace hs := Nat.le_trans hs hO1.size; clear hO1 hR1
            obtain ⟨M, rfl⟩ := Int.eq_ofNat_of_zero_le hm0
            have hw1 : IntKind.i64.wrap (8 * (M : Int)) = 8 * (M : Int) := wraps_i64 _ (by omega) (by omega)
            have hw2 : IntKind.i64.wrap (65480 + 8 * (M : Int)) = ((65480 + 8 * M : Nat) : Int) := (wraps_i64 _ (by omega) (by omega)).trans (by omega)
            have hgl2 := hR.lt
            go_wp2_with (at_make; refine wpList_make_bytes rfl _ _ rfl _ _ _ _ (65480 + 8 * M) rfl rfl (by omega) (by omega) (by omega) ?_; intro u33 hownB hbC; have hrl : (List.replicate (65480 + 8 * M) (0 : UInt8)).length ≤ 65600 := (by rw [List.length_replicate]; omega); generalize List.replicate (65480 + 8 * M) (0 : UInt8) = rl at hownB hrl; replace hX := hX.below hbC; replace hZ := hZ.below hbC; have hR := hR.far hbC; replace hO := hO.far hbC; replace hs := Nat.le_trans hs hbC.size; have hstr := run_string_own hownB; have y0 := hX.bx.2 0 _ rfl; have y1 := hX.bx.2 1 _ rfl; have y2 := hX.bx.2 2 _ rfl; have y3 := hX.bx.2 3 _ rfl; have y4 := hX.bx.2 4 _ rfl; have y5 := hX.bx.2 5 _ rfl; have y6 := hX.bx.2 6 _ rfl; have y7 := hX.bx.2 7 _ rfl; have y8 := hX.bx.2 8 _ rfl; have y9 := hX.bx.2 9 _ rfl; have y10 := hX.bx.2 10 _ rfl; have z0 := hZ.bx.2 0 _ rfl; have z1 := hZ.bx.2 1 _ rfl; have z2 := hZ.bx.2 2 _ rfl; have z3 := hZ.bx.2 3 _ rfl; have z4 := hZ.bx.2 4 _ rfl; have z5 := hZ.bx.2 5 _ rfl; have z6 := hZ.bx.2 6 _ rfl; have z7 := hZ.bx.2 7 _ rfl; have z8 := hZ.bx.2 8 _ rfl; have z9 := hZ.bx.2 9 _ rfl; have z10 := hZ.bx.2 10 _ rfl; have f0 := hX.fx.2; have fz := hZ.fx.2; have hgg := hX.bx.1; have hn1 : ¬ (g = w.heap.size) := (by omega); have hn2 : ¬ (w.heap.size = g) := (by omega); have hKr : ∀ W, Below w.heap.size u33 W → RdI W b C len cap ∧ Only b w W := (fun W h => ⟨hR.kept (h.mono (by omega)), hO.beyond (Nat.le_refl _) h⟩); have hB0 := Below.refl w.heap.size u33; have hsz : w.heap.size < u33.heap.size := (by omega))
            have hds : (str rl).size ≤ 65600 := by rw [str_size]; exact hrl
            refine bodyPost_ret (v := .agg #[.int .i64 x0, .int .i64 x1, .bool x2, .bool false, .int .i64 yo, .int .i64 x5, .int .i64 x6, .int .i64 x7, .int .i64 x8, .string to, .string (str rl)]) ?_ rfl ⟨⟨x0, x1, x2, false, yo, x5, x6, x7, x8, to, (str rl)⟩, rfl, ?_, ?_, ?_, ?_, ?_, ?_⟩
            · simp [results, Try.results61, go_sem, z0, z1, z2, z3, z4, z5, z6, z7, z8, z9, z10]
            · first | exact hds | (dsimp only; omega)
            · first | (dsimp only; omega) | (show (⟨#[]⟩ : ByteArray).size ≤ 24; decide)
            · dsimp only; omega
            · dsimp only; omega
            · refine (hKr _ ?_).1
              go_grown
            · refine (hKr _ ?_).2
              go_grown
        · have y10 := hX.bx.2 10 _ rfl
          have hq1 : (t.size : Int) / 8 * 8 ≤ t.size := by omega
          have hq2 : IntKind.i64.wrap ((t.size : Int) / 8) = (t.size : Int) / 8 := wraps_i64 _ (by omega) (by omega)
          have hq3 : IntKind.i64.wrap ((t.size : Int) / 8 * 8) = (t.size : Int) / 8 * 8 := wraps_i64 _ (by omega) (by omega)
          go_wp2_with fail
          clear y10 y3
          clear f0
          replace hX : OI b w0.heap.size (u28.setCell ⟨g, 3, none⟩ (.bool true)) g [.int .i64 x0, .int .i64 x1, .bool x2, .bool true, .int .i64 yo, .int .i64 x5, .int .i64 x6, .int .i64 x7, .int .i64 x8, .string to, .string t] := hX.set 3 (.bool true)
          replace hZ := hZ.beside (c := g) (j := 3) (by omega) (.bool true)
          replace hR := rdi_setI (g := g) (j := 3) (v := .bool true) hR (by omega)
          replace hO := only_setI (g := g) (j := 3) (v := .bool true) hO (by omega)
          replace hs : w0.heap.size ≤ (u28.setCell ⟨g, 3, none⟩ (.bool true)).heap.size := by simpa using hs
          generalize u28.setCell ⟨g, 3, none⟩ (.bool true) = u34 at *
          replace hX : OI b w0.heap.size (u34.setCell ⟨g, 10, none⟩ (.string (t.extract 0 (t.size / 8 * 8)))) g [.int .i64 x0, .int .i64 x1, .bool x2, .bool true, .int .i64 yo, .int .i64 x5, .int .i64 x6, .int .i64 x7, .int .i64 x8, .string to, .string (t.extract 0 (t.size / 8 * 8))] := hX.set 10 (.string (t.extract 0 (t.size / 8 * 8)))
          replace hZ := hZ.beside (c := g) (j := 10) (by omega) (.string (t.extract 0 (t.size / 8 * 8)))
          replace hR := rdi_setI (g := g) (j := 10) (v := .string (t.extract 0 (t.size / 8 * 8))) hR (by omega)
          replace hO := only_setI (g := g) (j := 10) (v := .string (t.extract 0 (t.size / 8 * 8))) hO (by omega)
          replace hs : w0.heap.size ≤ (u34.setCell ⟨g, 10, none⟩ (.string (t.extract 0 (t.size / 8 * 8)))).heap.size := by simpa using hs
          generalize u34.setCell ⟨g, 10, none⟩ (.string (t.extract 0 (t.size / 8 * 8))) = u35 at *
          have hte : (t.extract 0 (t.size / 8 * 8)).size ≤ 90 := by rw [ByteArray.size_extract]; omega
          generalize t.extract 0 (t.size / 8 * 8) = tx at *
          refine (r_once b C len cap _ _ (by omega) (by omega) hR).mono ?_
          rintro e u37 ⟨q4, rfl, hR1, hO1⟩
          replace hZ := hZ.only hO1; replace hX := hX.only hO1; replace hO := hO.trans hO1; have hR := hR1; replace hs := Nat.le_trans hs hO1.size; clear hO1 hR1
          cases q4
          · skip
            have y0 := hX.bx.2 0 _ rfl; have y1 := hX.bx.2 1 _ rfl; have y2 := hX.bx.2 2 _ rfl; have y3 := hX.bx.2 3 _ rfl; have y4 := hX.bx.2 4 _ rfl; have y5 := hX.bx.2 5 _ rfl; have y6 := hX.bx.2 6 _ rfl; have y7 := hX.bx.2 7 _ rfl; have y8 := hX.bx.2 8 _ rfl; have y9 := hX.bx.2 9 _ rfl; have y10 := hX.bx.2 10 _ rfl
            have z0 := hZ.bx.2 0 _ rfl; have z1 := hZ.bx.2 1 _ rfl; have z2 := hZ.bx.2 2 _ rfl; have z3 := hZ.bx.2 3 _ rfl; have z4 := hZ.bx.2 4 _ rfl; have z5 := hZ.bx.2 5 _ rfl; have z6 := hZ.bx.2 6 _ rfl; have z7 := hZ.bx.2 7 _ rfl; have z8 := hZ.bx.2 8 _ rfl; have z9 := hZ.bx.2 9 _ rfl; have z10 := hZ.bx.2 10 _ rfl
            have f0 := hX.fx.2; have fz := hZ.fx.2
            have hn1 : ¬ (g = w.heap.size) := by omega
            have hn2 : ¬ (w.heap.size = g) := by omega
            have hKr : ∀ W, Below w.heap.size u37 W → RdI W b C len cap ∧ Only b w W := fun W h => ⟨hR.kept (h.mono (by omega)), hO.beyond (Nat.le_refl _) h⟩
            have hB0 := Below.refl w.heap.size u37
            have hsz : w.heap.size < u37.heap.size := by omega
            go_wp2
            refine bodyPost_ret (v := .agg #[.int .i64 x0, .int .i64 x1, .bool x2, .bool true, .int .i64 yo, .int .i64 x5, .int .i64 x6, .int .i64 x7, .int .i64 x8, .string to, .string tx]) ?_ rfl ⟨⟨x0, x1, x2, true, yo, x5, x6, x7, x8, to, tx⟩, rfl, ?_, ?_, ?_, ?_, ?_, ?_⟩
            · simp [results, Try.results61, go_sem, z0, z1, z2, z3, z4, z5, z6, z7, z8, z9, z10]
            · first | exact hds | (dsimp only; omega)
            · first | (dsimp only; omega) | (show (⟨#[]⟩ : ByteArray).size ≤ 24; decide)
            · dsimp only; omega
            · dsimp only; omega
            · refine (hKr _ ?_).1
              go_grown
            · refine (hKr _ ?_).2
              go_grown
          · skip
            go_wp2_with fail
            refine (r_below b C len cap _ _ (by omega) hR).mono ?_
            rintro e u38 ⟨m, rfl, hm0, hm1, hR1, hO1⟩
            replace hZ := hZ.only hO1; replace hX := hX.only hO1; replace hO := hO.trans hO1; have hR := hR1; replace hs := Nat.le_trans hs hO1.size; clear hO1 hR1
            obtain ⟨M, rfl⟩ := Int.eq_ofNat_of_zero_le hm0
            have hw1 : IntKind.i64.wrap (8 * (M : Int)) = 8 * (M : Int) := wraps_i64 _ (by omega) (by omega)
            have hw2 : IntKind.i64.wrap (65480 + 8 * (M : Int)) = ((65480 + 8 * M : Nat) : Int) := (wraps_i64 _ (by omega) (by omega)).trans (by omega)
            have hgl2 := hR.lt
            go_wp2_with (at_make; refine wpList_make_bytes rfl _ _ rfl _ _ _ _ (65480 + 8 * M) rfl rfl (by omega) (by omega) (by omega) ?_; intro u39 hownB hbC; have hrl : (List.replicate (65480 + 8 * M) (0 : UInt8)).length ≤ 65600 := (by rw [List.length_replicate]; omega); generalize List.replicate (65480 + 8 * M) (0 : UInt8) = rl at hownB hrl; replace hX := hX.below hbC; replace hZ := hZ.below hbC; have hR := hR.far hbC; replace hO := hO.far hbC; replace hs := Nat.le_trans hs hbC.size; have hstr := run_string_own hownB; have y0 := hX.bx.2 0 _ rfl; have y1 := hX.bx.2 1 _ rfl; have y2 := hX.bx.2 2 _ rfl; have y3 := hX.bx.2 3 _ rfl; have y4 := hX.bx.2 4 _ rfl; have y5 := hX.bx.2 5 _ rfl; have y6 := hX.bx.2 6 _ rfl; have y7 := hX.bx.2 7 _ rfl; have y8 := hX.bx.2 8 _ rfl; have y9 := hX.bx.2 9 _ rfl; have y10 := hX.bx.2 10 _ rfl; have z0 := hZ.bx.2 0 _ rfl; have z1 := hZ.bx.2 1 _ rfl; have z2 := hZ.bx.2 2 _ rfl; have z3 := hZ.bx.2 3 _ rfl; have z4 := hZ.bx.2 4 _ rfl; have z5 := hZ.bx.2 5 _ rfl; have z6 := hZ.bx.2 6 _ rfl; have z7 := hZ.bx.2 7 _ rfl; have z8 := hZ.bx.2 8 _ rfl; have z9 := hZ.bx.2 9 _ rfl; have z10 := hZ.bx.2 10 _ rfl; have f0 := hX.fx.2; have fz := hZ.fx.2; have hgg := hX.bx.1; have hn1 : ¬ (g = w.heap.size) := (by omega); have hn2 : ¬ (w.heap.size = g) := (by omega); have hKr : ∀ W, Below w.heap.size u39 W → RdI W b C len cap ∧ Only b w W := (fun W h => ⟨hR.kept (h.mono (by omega)), hO.beyond (Nat.le_refl _) h⟩); have hB0 := Below.refl w.heap.size u39; have hsz : w.heap.size < u39.heap.size := (by omega))
            have hds : (str rl).size ≤ 65600 := by rw [str_size]; exact hrl
            refine bodyPost_ret (v := .agg #[.int .i64 x0, .int .i64 x1, .bool x2, .bool true, .int .i64 yo, .int .i64 x5, .int .i64 x6, .int .i64 x7, .int .i64 x8, .string to, .string (str rl)]) ?_ rfl ⟨⟨x0, x1, x2, true, yo, x5, x6, x7, x8, to, (str rl)⟩, rfl, ?_, ?_, ?_, ?_, ?_, ?_⟩
            · simp [results, Try.results61, go_sem, z0, z1, z2, z3, z4, z5, z6, z7, z8, z9, z10]
            · first | exact hds | (dsimp only; omega)
            · first | (dsimp only; omega) | (show (⟨#[]⟩ : ByteArray).size ≤ 24; decide)
            · dsimp only; omega
            · dsimp only; omega
            · refine (hKr _ ?_).1
              go_grown
            · refine (hKr _ ?_).2
              go_grown
end Go.Proofs.Ytgfpoohjbgdcpaa
