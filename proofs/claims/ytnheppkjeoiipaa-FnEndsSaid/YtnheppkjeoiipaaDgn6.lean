/-
  The draw of options.
-/
import Derived.Test.YtnheppkjeoiipaaDgn3
import Derived.Test.YtnheppkjeoiipaaRdr
import Derived.Test.YtnheppkjeoiipaaGnv8
import Derived.Test.YtnheppkjeoiipaaDtab0
import Derived.Test.YtnheppkjeoiipaaRinv
import Derived.Deep.Cut
import Derived.Deep.CutRange
namespace Go.Proofs.Ytnheppkjeoiipaa
open Go.RowKit Go.PlainAid
set_option maxRecDepth 100000 in
theorem upon_mk {o : Oper} {a : Act} {K : Act → World → Prop} {Q : Exit → Act → World → Prop} {W : World} {n : Nat} {L : Int} (hL : L = (n : Int)) (hn : n ≤ 1000)
    (h : ∀ G w', W.heap.size ≤ G → ownB w' G (.slice (some ⟨G, 0, none⟩) n n) (List.replicate n 0) → Below W.heap.size W w' → K (a.put o.dst (.slice (some ⟨G, 0, none⟩) n n)) w') :
    Oper.upon Try.prog o a K Q ((Sem.run Try.prog (Instr.makeSlice 22 (.int .i64 L) (.int .i64 L)) W).andThen fun a w' => Result.ok (Next.value a) w') := by
  subst hL
  obtain ⟨i0, hi, hz0, hz1, hz2⟩ := info_parts Try.infoB
  obtain ⟨w', hrun, r1, r2⟩ := run_make_full (P := Try.prog) W W.heap.size 22 5 i0 (.int .u8 0) 1 Try.underlying22 hi hz0 hz1 .i64 .i64 n (by rw [hz2]; omega) (by unfold maxLen; omega) (Nat.le_refl _)
  rw [hrun]
  simp only [Result.andThen]
  rw [Oper.upon_value]
  refine h W.heap.size w' (Nat.le_refl _) ?_ ((Below.refl _ W).grown r2 (Nat.le_refl _) (by simp))
  have e : (madeCells (Value.int .u8 0).cells (n * 1)).toList = bcells (List.replicate n 0) := by
    have := toList_madeCells_one (Value.int .u8 0) n
    simp [bcells, Value.cells] at this ⊢; exact this
  unfold ownB; rw [← e]; simpa using r1
abbrev cls4 : Array Value := #[.int .i64 259, .int .i64 259, .int .i64 260, .int .i64 0]
/-- the four classes lie at g -/
structure SB (b : Nat) (u : World) (g : Nat) : Prop where
  lt : g < u.heap.size
  ne : g ≠ b
  cell : ∀ j v, cls4[j]? = some v → u.cell? ⟨g, j, none⟩ = some v
theorem SB.only {b g : Nat} {u u1 : World} (h : SB b u g) (hO : Only b u u1) : SB b u1 g := ⟨Nat.lt_of_lt_of_le h.lt hO.size, h.ne, fun j v hv => (hO.cell h.lt h.ne).trans (h.cell j v hv)⟩
theorem SB.new {b : Nat} {u : World} {T : TypeId} (hb : b < u.heap.size) : SB b (u.alloc (.cells cls4 T)) u.heap.size := ⟨by simp, by omega, fun j v hv => alloc_at u cls4 T j v hv⟩
/-- an option lies at g -/
structure OB (b B : Nat) (u : World) (g : Nat) (vs : List Value) : Prop where
  bx : Bx u g vs
  fx : Fx u g
  ne : g ≠ b
  le : B ≤ g
theorem OB.only {b B g : Nat} {vs : List Value} {u u1 : World} (h : OB b B u g vs) (hO : Only b u u1) : OB b B u1 g vs :=
  ⟨⟨Nat.lt_of_lt_of_le h.bx.1 hO.size, fun i v hi => (hO.cell h.bx.1 h.ne).trans (h.bx.2 i v hi)⟩, ⟨Nat.lt_of_lt_of_le h.bx.1 hO.size, fun j => (World.frozen?_of_block (w := u) (a := ⟨g, j, none⟩) (hO.block g h.bx.1 (by simp; exact h.ne))).trans (h.fx.2 j)⟩, h.ne, h.le⟩
theorem OB.new {b B : Nat} {u : World} {A : Array Value} {T : TypeId} (hb : b < u.heap.size) (hB : B ≤ u.heap.size) : OB b B (u.alloc (.cells A T)) u.heap.size A.toList :=
  ⟨Bx.new u A T, Fx.new u A T, by omega, hB⟩
theorem OB.set {b B g : Nat} {vs : List Value} {u : World} (h : OB b B u g vs) (j : Nat) (v : Value) : OB b B (u.setCell ⟨g, j, none⟩ v) g (vs.set j v) := ⟨h.bx.put j v, h.fx.put _ _, h.ne, h.le⟩
theorem OB.alloc {b B g : Nat} {vs : List Value} {u : World} (h : OB b B u g vs) (o : Obj) : OB b B (u.alloc o) g vs := h.only ((Only.refl b u).alloc o)
theorem SB.alloc {b g : Nat} {u : World} (h : SB b u g) (o : Obj) : SB b (u.alloc o) g := h.only ((Only.refl b u).alloc o)
theorem ownB_al {w : World} {B : Nat} {v : Value} {l : List UInt8} (h : ownB w B v l) (o : Obj) : ownB (w.alloc o) B v l := ownV.alloc (k := 1) h o
theorem oneOpG (a : OpV) : ∀ u ∈ (opL a).toList, u.oneCell' = true := by
  intro u hu
  obtain ⟨c, t, d⟩ := a
  simp only [opL, List.mem_cons, List.not_mem_nil, or_false] at hu
  rcases hu with rfl | rfl | rfl <;> rfl
theorem opTot_app1 (l : List OpV) (a : OpV) : opTot (l ++ [a]) = opTot l + opSz a := by unfold opTot; rw [totV_app]; simp [totV]
theorem only_of {b : Nat} {w w' : World} (h : Below w.heap.size w w') : Only b w w' := ⟨h.os, h.tape, h.output, h.size, fun i hi _ => h.block i hi⟩
theorem cls_at (Y : Nat) (h : (Y : Int) < 4) : ∃ tv : Int, cls4[Y]? = some (.int .i64 tv) := by
  have hY : Y = 0 ∨ Y = 1 ∨ Y = 2 ∨ Y = 3 := by omega
  rcases hY with rfl | rfl | rfl | rfl <;> exact ⟨_, rfl⟩
theorem SB.newP {b : Nat} {u : World} {o : Obj} {T : TypeId} (hb : b < u.heap.size) : SB b ((u.alloc o).alloc (.cells cls4 T)) (u.heap.size + 1) := by
  have e : (u.alloc o).heap.size = u.heap.size + 1 := by simp
  have := SB.new (u := u.alloc o) (T := T) (b := b) (by rw [e]; omega)
  rw [e] at this
  exact this
theorem OB.newP {b B : Nat} {u : World} {o : Obj} {A : Array Value} {T : TypeId} (hb : b < u.heap.size) (hB : B ≤ u.heap.size) : OB b B ((u.alloc o).alloc (.cells A T)) (u.heap.size + 1) A.toList := by
  have e : (u.alloc o).heap.size = u.heap.size + 1 := by simp
  have := OB.new (u := u.alloc o) (A := A) (T := T) (b := b) (B := B) (by rw [e]; omega) (by rw [e]; omega)
  rw [e] at this
  exact this
/-- what each operation leaves -/
def TF (b B : Nat) : Nat → Value → World → Prop
  | 0, x, w => ∃ g, x = .slice (some ⟨g, 0, none⟩) 4 4 ∧ SB b w g
  | 1, x, _ => x = .pointer (some ⟨b, 0, none⟩)
  | 2, x, _ => ∃ Y : Nat, x = .int .i64 (Y : Int) ∧ Y < 4
  | 3, x, w => ∃ g Y, x = .pointer (some ⟨g, Y, none⟩) ∧ SB b w g ∧ Y < 4
  | 4, x, _ => ∃ y : Int, x = .int .i64 y
  | 5, x, _ => x = .pointer (some ⟨b, 0, none⟩)
  | 6, x, _ => ∃ y : Int, x = .int .i64 y
  | 7, x, _ => x = .pointer (some ⟨b, 0, none⟩)
  | 8, x, _ => ∃ Y : Nat, x = .int .i64 (Y : Int) ∧ Y ≤ 3
  | 9, x, _ => ∃ Y : Nat, x = .int .i64 (4 * (Y : Int)) ∧ Y ≤ 3
  | 10, x, w => ∃ rl : List UInt8, ownB w B x rl ∧ rl.length ≤ 12
  | 11, x, _ => ∃ s : ByteArray, x = .string s ∧ s.size ≤ 12
  | 12, x, _ => ∃ (y z : Int) (s : ByteArray), x = .agg #[.int .i64 y, .int .i64 z, .string s] ∧ s.size ≤ 12
  | 13, x, w => ∃ g v0 v1 v2, x = .pointer (some ⟨g, 0, none⟩) ∧ OB b B w g [v0, v1, v2]
  | _ + 14, _, _ => True
structure TJ (wr : World) (b : Nat) (C : Option Addr) (len cap : Nat) (L : Nat → Bool) (v : Nat → Value) (w : World) : Prop where
  rd : RdI w b C len cap
  on : Only b wr w
  F : L 14 = false → ∀ i, L i = true → TF b wr.heap.size i (v i) w
  all : L 14 = true → ∀ j, j < 14 → L j = true
  E : L 14 = true → ∃ (g : Nat) (a : OpV), v 13 = .pointer (some ⟨g, 0, none⟩) ∧ OB b wr.heap.size w g [.int .i64 a.cls, .int .i64 a.typ, .string a.data] ∧ a.data.size ≤ 12
theorem TF.only {b B : Nat} {w w' : World} (hb : b < B) (hO : Only b w w') : ∀ (i : Nat) (x : Value), TF b B i x w → TF b B i x w'
  | 0, _, ⟨g, e, h⟩ => ⟨g, e, h.only hO⟩
  | 1, _, h => h
  | 2, _, h => h
  | 3, _, ⟨g, Y, e, h, hY⟩ => ⟨g, Y, e, h.only hO, hY⟩
  | 4, _, h => h
  | 5, _, h => h
  | 6, _, h => h
  | 7, _, h => h
  | 8, _, h => h
  | 9, _, h => h
  | 10, _, ⟨rl, h, hl⟩ => ⟨rl, ownV_only h hO hb, hl⟩
  | 11, _, h => h
  | 12, _, h => h
  | 13, _, ⟨g, v0, v1, v2, e, h⟩ => ⟨g, v0, v1, v2, e, h.only hO⟩
  | _ + 14, _, _ => trivial
theorem TJ.h14 {wr : World} {b : Nat} {C : Option Addr} {len cap : Nat} {L : Nat → Bool} {v : Nat → Value} {w : World} (h : TJ wr b C len cap L v w) {n : Nat} (hn : n < 14) (hL : L n = false) : L 14 = false := by
  cases hq : L 14 with
  | false => rfl
  | true => have := h.all hq n hn; rw [hL] at this; cases this
theorem TJ.next {wr : World} {b : Nat} {C : Option Addr} {len cap : Nat} {L : Nat → Bool} {v : Nat → Value} {w w' : World} (h : TJ wr b C len cap L v w) (hb : b < wr.heap.size) (n : Nat) (x : Value) (hn : n < 14) (hL : L n = false)
    (hR : RdI w' b C len cap) (hO : Only b w w') (hx : TF b wr.heap.size n x w') : TJ wr b C len cap (updB L n) (updV v n x) w' := by
  have h14 : L 14 = false := by
    cases hq : L 14 with
    | false => rfl
    | true => have := h.all hq n hn; rw [hL] at this; cases this
  have e14 : updB L n 14 = false := by unfold updB; rw [if_neg (by omega)]; exact h14
  refine ⟨hR, h.on.trans hO, fun _ i hi => ?_, fun h' => (by rw [e14] at h'; cases h'), fun h' => (by rw [e14] at h'; cases h')⟩
  by_cases hin : i = n
  · subst hin; rw [updV_same]; exact hx
  · rw [updV_ne _ _ hin]
    have : L i = true := by unfold updB at hi; rw [if_neg hin] at hi; exact hi
    exact (h.F h14 i this).only hb hO
abbrev zer3 : Array Value := #[.int .i64 0, .int .i64 0, .string ByteArray.empty]
set_option maxRecDepth 100000 in
set_option maxHeartbeats 128000000 in
theorem r_tlvs : TlvsC := by
  intro b C len cap w h
  have hbw := h.lt
  have hO0 : ownV (w.alloc (.cells #[] 33)) w.heap.size 33 3 (.slice (some ⟨w.heap.size, 0, none⟩) 0 0) 0 [] := World.ownsRow_made w #[] 0 (Nat.le_refl _) (by decide) rfl
  have hQ0 : Only b w (w.alloc (.cells #[] 33)) := (Only.refl b w).alloc _
  have hR0 := h.alloc (.cells #[] 33)
  go_enter Try.func28, Try.ntmps28
  go_wp2_with fail
  generalize hW : w.alloc _ = w0 at *
  clear hW
  refine (r_below _ C len cap _ _ (by omega) hR0).mono ?_
  rintro e w1 ⟨x, rfl, hx0, hx1, hR1, hO1⟩
  obtain ⟨N, rfl⟩ := Int.eq_ofNat_of_zero_le hx0
  have hN : N ≤ 3 := by omega
  have ho1 := ownV_only hO0 hO1 hbw
  have hQ1 : Only b w w1 := hQ0.trans hO1
  clear hO0 hQ0 hR0 hx0 hx1 hO1
  go_wp2
  go_loopw [3, 4] (fun v i wr => ∃ (k : Nat) (l : List OpV), i = .int .i64 (k : Int) ∧ l.length + k ≤ 3 ∧ opTot l ≤ 140 * l.length ∧ ownV wr w.heap.size 33 3 v l.length (opF l) ∧ RdI wr b C len cap ∧ Only b w wr) (fun _ i _ => (intOf i).toNat)
  case atStart => exact ⟨N, [], rfl, by simp; exact hN, by simp [opTot, totV], ho1, hR1, hQ1⟩
  case round =>
    clear hR1 hQ1 ho1
    obtain ⟨k, l, rfl, hk, ht, ho, hR, hQ⟩ := hrel
    obtain ⟨T, c, rfl⟩ := ho.form
    have hsz := hQ.size
    by_cases hlt : 0 < k
    · have hk1 : (0 : Int) < (k : Int) := by omega
      go_upto_region 5 with fail
      go_cut [5] from 9 to 48 (fun p wx => ∃ (g : Nat) (a : OpV), p = .pointer (some ⟨g, 0, none⟩) ∧ OB b wr.heap.size wx g [.int .i64 a.cls, .int .i64 a.typ, .string a.data] ∧ a.data.size ≤ 12 ∧ RdI wx b C len cap ∧ Only b wr wx)
      case first =>
        have hr0 := hR.lt
        have HQ : Only b wr wr.drew := (Only.refl b wr).drew
        replace hR := hR.drew
        clear ho hQ ht hk hsz hk1 hlt
        refine wp_region_inv (fun v => ⟨#[.pointer (some ⟨b, 0, none⟩), undef, .slice none 0 0, .slice T l.length c, .int .i64 (k : Int), v 13, .slice (some ⟨w.heap.size, 0, none⟩) 0 0, .pointer (some ⟨b, 0, none⟩), .int .i64 (N : Int), .int .i64 (k : Int), .bool true, u11, u12, v 0, v 1, v 2, v 3, v 4, v 5, v 6, v 7, v 8, v 9, v 10, v 11, v 12, u26, u27, u28, u29, u30, u31, u32, u33, u34, u35, u36, u37, u38, u39, u40, u41, u42, u43, u44, u45, u46, u47, u48, undef], []⟩) (TJ wr b C len cap) (fun i => #[u13, u14, u15, u16, u17, u18, u19, u20, u21, u22, u23, u24, u25, u5].getD i undef) (by kernel_rfl) (by kernel_rfl) rfl ?_ ?_ ?_
        case refine_1 =>
          intro L hL
          refine ⟨hR, HQ, fun _ i hi => ?_, fun h => (by rw [hL 14 (by decide)] at h; cases h), fun h => (by rw [hL 14 (by decide)] at h; cases h)⟩
          by_cases hi15 : i < 15
          · rw [hL i hi15] at hi; cases hi
          · obtain ⟨m, rfl⟩ : ∃ m, i = m + 14 := ⟨i - 14, by omega⟩
            trivial
        case refine_2 =>
          refine Steps.cons rfl (fun L v u hJ hL hd K hK => ?_) ?_
          · have hR := hJ.rd
            clear hd
            go_simp
            exact hK (updV v 0 _) _ (hJ.next hr0 0 _ (by decide) hL (hR.alloc _) ((Only.refl b u).alloc _) ⟨_, rfl, SB.new hR.lt⟩)
          refine Steps.cons rfl (fun L v u hJ hL hd K hK => ?_) ?_
          · have hR := hJ.rd
            clear hd
            go_simp
            exact hK (updV v 1 _) _ (hJ.next hr0 1 _ (by decide) hL hR (Only.refl b u) rfl)
          refine Steps.cons rfl (fun L v u hJ hL hd K hK => ?_) ?_
          · have hR := hJ.rd
            have hF := hJ.F (hJ.h14 (by decide) hL)
            have e1 := hF 1 (hd ⟨1, .data⟩ (by simp) rfl)
            replace e1 : v 1 = .pointer (some ⟨b, 0, none⟩) := e1
            clear hF hd
            go_simp
            refine (r_below b C len cap _ _ (by omega) hR).mono ?_
            rintro e u1 ⟨y, rfl, hy0, hy1, hR1, hO1⟩
            obtain ⟨Y, rfl⟩ := Int.eq_ofNat_of_zero_le hy0
            exact hK (updV (updV v 1 (.pointer (some ⟨b, 0, none⟩))) 2 _) _ (by rw [updV_eq e1]; exact hJ.next hr0 2 _ (by decide) hL hR1 hO1 ⟨Y, rfl, by omega⟩)
          refine Steps.cons rfl (fun L v u hJ hL hd K hK => ?_) ?_
          · have hR := hJ.rd
            have hF := hJ.F (hJ.h14 (by decide) hL)
            have e0 := hF 0 (hd ⟨0, .data⟩ (by simp) rfl)
            obtain ⟨g0, e0, hS0⟩ := e0
            have e2 := hF 2 (hd ⟨2, .data⟩ (by simp) rfl)
            obtain ⟨Y, e2, hY⟩ := e2
            clear hF hd
            have hYi : (Y : Int) < 4 := by omega
            go_simp
            exact hK (updV (updV (updV v 0 (.slice (some ⟨g0, 0, none⟩) 4 4)) 2 (.int .i64 (Y : Int))) 3 _) _ (by rw [updV_eq e0, updV_eq e2]; exact hJ.next hr0 3 _ (by decide) hL hR (Only.refl b u) ⟨g0, Y, rfl, hS0, hY⟩)
          refine Steps.cons rfl (fun L v u hJ hL hd K hK => ?_) ?_
          · have hR := hJ.rd
            have hF := hJ.F (hJ.h14 (by decide) hL)
            have e3 := hF 3 (hd ⟨3, .data⟩ (by simp) rfl)
            obtain ⟨g3, Y, e3, hS3, hY⟩ := e3
            clear hF hd
            obtain ⟨tv, htv⟩ := cls_at Y (by omega)
            have f1 := hS3.cell _ _ htv
            go_simp
            exact hK (updV (updV v 3 (.pointer (some ⟨g3, Y, none⟩))) 4 _) _ (by rw [updV_eq e3]; exact hJ.next hr0 4 _ (by decide) hL hR (Only.refl b u) ⟨tv, rfl⟩)
          refine Steps.cons rfl (fun L v u hJ hL hd K hK => ?_) ?_
          · have hR := hJ.rd
            clear hd
            go_simp
            exact hK (updV v 5 _) _ (hJ.next hr0 5 _ (by decide) hL hR (Only.refl b u) rfl)
          refine Steps.cons rfl (fun L v u hJ hL hd K hK => ?_) ?_
          · have hR := hJ.rd
            have hF := hJ.F (hJ.h14 (by decide) hL)
            have e5 := hF 5 (hd ⟨5, .data⟩ (by simp) rfl)
            replace e5 : v 5 = .pointer (some ⟨b, 0, none⟩) := e5
            clear hF hd
            go_simp
            refine (r_below b C len cap _ _ (by omega) hR).mono ?_
            rintro e u1 ⟨y, rfl, hy0, hy1, hR1, hO1⟩
            exact hK (updV (updV v 5 (.pointer (some ⟨b, 0, none⟩))) 6 _) _ (by rw [updV_eq e5]; exact hJ.next hr0 6 _ (by decide) hL hR1 hO1 ⟨y, rfl⟩)
          refine Steps.cons rfl (fun L v u hJ hL hd K hK => ?_) ?_
          · have hR := hJ.rd
            clear hd
            go_simp
            exact hK (updV v 7 _) _ (hJ.next hr0 7 _ (by decide) hL hR (Only.refl b u) rfl)
          refine Steps.cons rfl (fun L v u hJ hL hd K hK => ?_) ?_
          · have hR := hJ.rd
            have hF := hJ.F (hJ.h14 (by decide) hL)
            have e7 := hF 7 (hd ⟨7, .data⟩ (by simp) rfl)
            replace e7 : v 7 = .pointer (some ⟨b, 0, none⟩) := e7
            clear hF hd
            go_simp
            refine (r_below b C len cap _ _ (by omega) hR).mono ?_
            rintro e u1 ⟨y, rfl, hy0, hy1, hR1, hO1⟩
            obtain ⟨Y, rfl⟩ := Int.eq_ofNat_of_zero_le hy0
            exact hK (updV (updV v 7 (.pointer (some ⟨b, 0, none⟩))) 8 _) _ (by rw [updV_eq e7]; exact hJ.next hr0 8 _ (by decide) hL hR1 hO1 ⟨Y, rfl, by omega⟩)
          refine Steps.cons rfl (fun L v u hJ hL hd K hK => ?_) ?_
          · have hR := hJ.rd
            have hF := hJ.F (hJ.h14 (by decide) hL)
            have e8 := hF 8 (hd ⟨8, .data⟩ (by simp) rfl)
            obtain ⟨Y, e8, hY⟩ := e8
            clear hF hd
            have hzw : IntKind.i64.wrap (4 * (Y : Int)) = 4 * (Y : Int) := wraps_i64 _ (by omega) (by omega)
            go_simp
            exact hK (updV (updV v 8 (.int .i64 (Y : Int))) 9 _) _ (by rw [updV_eq e8]; exact hJ.next hr0 9 _ (by decide) hL hR (Only.refl b u) ⟨Y, rfl, hY⟩)
          refine Steps.cons rfl (fun L v u hJ hL hd K hK => ?_) ?_
          · have hR := hJ.rd
            have hF := hJ.F (hJ.h14 (by decide) hL)
            have e9 := hF 9 (hd ⟨9, .data⟩ (by simp) rfl)
            obtain ⟨Y, e9, hY⟩ := e9
            clear hF hd
            go_simp
            refine upon_mk (n := 4 * Y) (by omega) (by omega) ?_
            intro G w5 hG hown hb
            dsimp only [Act.put]
            exact hK (updV (updV v 9 (.int .i64 (4 * (Y : Int)))) 10 _) _ (by rw [updV_eq e9]; exact hJ.next hr0 10 _ (by decide) hL (hR.far hb) (only_of hb) ⟨List.replicate (4 * Y) 0, ownV.mono (k := 1) hown (Nat.le_trans hJ.on.size hG), by rw [List.length_replicate]; omega⟩)
          refine Steps.cons rfl (fun L v u hJ hL hd K hK => ?_) ?_
          · have hR := hJ.rd
            have hF := hJ.F (hJ.h14 (by decide) hL)
            have e10 := hF 10 (hd ⟨10, .data⟩ (by simp) rfl)
            obtain ⟨rl, ho, hl⟩ := e10
            clear hF hd
            have hst := run_string_own ho
            go_simp
            exact hK (updV v 11 _) _ (hJ.next hr0 11 _ (by decide) hL hR (Only.refl b u) ⟨_, rfl, by rw [show ByteArray.size ⟨rl.toArray⟩ = rl.length from str_size rl]; exact hl⟩)
          refine Steps.cons rfl (fun L v u hJ hL hd K hK => ?_) ?_
          · have hR := hJ.rd
            have hF := hJ.F (hJ.h14 (by decide) hL)
            have e4 := hF 4 (hd ⟨4, .data⟩ (by simp) rfl)
            obtain ⟨y4, e4⟩ := e4
            have e6 := hF 6 (hd ⟨6, .data⟩ (by simp) rfl)
            obtain ⟨y6, e6⟩ := e6
            have e11 := hF 11 (hd ⟨11, .data⟩ (by simp) rfl)
            obtain ⟨s, e11, hs⟩ := e11
            clear hF hd
            go_simp
            exact hK (updV (updV (updV (updV v 4 (.int .i64 y4)) 6 (.int .i64 y6)) 11 (.string s)) 12 _) _ (by rw [updV_eq e4, updV_eq e6, updV_eq e11]; exact hJ.next hr0 12 _ (by decide) hL hR (Only.refl b u) ⟨y4, y6, s, rfl, hs⟩)
          refine Steps.cons rfl (fun L v u hJ hL hd K hK => ?_) ?_
          · have hR := hJ.rd
            clear hd
            go_simp
            exact hK (updV v 13 _) _ (hJ.next hr0 13 _ (by decide) hL (hR.alloc _) ((Only.refl b u).alloc _) ⟨_, _, _, _, rfl, OB.new hR.lt hJ.on.size⟩)
          refine Steps.cons rfl (fun L v u hJ hL hd K hK => ?_) ?_
          · have hR := hJ.rd
            have hF := hJ.F hL
            have e12 := hF 12 (hd ⟨12, .data⟩ (by simp) rfl)
            obtain ⟨y, z, s, e12, hs⟩ := e12
            have e13 := hF 13 (hd ⟨13, .data⟩ (by simp) rfl)
            obtain ⟨g, v0, v1, v2, e13, hG⟩ := e13
            have z0 := hG.bx.2 0 _ rfl
            have z1 := hG.bx.2 1 _ rfl
            have z2 := hG.bx.2 2 _ rfl
            have q0 := hG.fx.2 0
            have q1 := hG.fx.2 1
            have q2 := hG.fx.2 2
            go_simp
            have hB := below_set (below_set (below_set (Below.refl wr.heap.size u) ⟨g, 0, none⟩ (.int .i64 y) hG.le) ⟨g, 1, none⟩ (.int .i64 z) hG.le) ⟨g, 2, none⟩ (.string s) hG.le
            refine hK (updV (updV v 12 (.agg #[.int .i64 y, .int .i64 z, .string s])) 13 (.pointer (some ⟨g, 0, none⟩))) _ ?_
            rw [updV_eq (v := updV v 12 _) (by rw [updV_eq e12]; exact e13), updV_eq e12]
            have e14 : updB L 14 14 = true := by unfold updB; rw [if_pos rfl]
            refine ⟨hR.kept (hB.mono (by omega)), hJ.on.beyond (Nat.le_refl _) hB, fun h => (by rw [e14] at h; cases h), fun _ j hj => ?_, fun _ => ⟨g, ⟨y, z, s⟩, e13, ((hG.set 0 _).set 1 _).set 2 _, hs⟩⟩
            have hall : ∀ j, j < 14 → L j = true := fun j hj => by
              have : j = 0 ∨ j = 1 ∨ j = 2 ∨ j = 3 ∨ j = 4 ∨ j = 5 ∨ j = 6 ∨ j = 7 ∨ j = 8 ∨ j = 9 ∨ j = 10 ∨ j = 11 ∨ j = 12 ∨ j = 13 := by omega
              rcases this with rfl | rfl | rfl | rfl | rfl | rfl | rfl | rfl | rfl | rfl | rfl | rfl | rfl | rfl
              all_goals exact hd ⟨_, .phase⟩ (by simp) rfl
            unfold updB
            rw [if_neg (by omega)]
            exact hall j hj
          exact Steps.nil
        case refine_3 =>
          intro L v u hJ hL
          obtain ⟨g, a, e, hO, hs⟩ := hJ.E (hL 14 (by decide))
          have hR := hJ.rd
          have HQ := hJ.on
          clear hJ hL
          try go_wp2_with fail
          go_meet
          exact ⟨g, a, e, hO, hs, hR, HQ⟩
      case rest =>
        obtain ⟨g, a, rfl, hG, hd, hR5, hO5⟩ := hcut
        have hwr := hR.lt
        have hgl := hG.le
        go_wp2_with fail
        refine (r_below b C len cap _ _ (by omega) hR5).mono ?_
        rintro e w6 ⟨y, rfl, hy0, hy1, hR6, hO6⟩
        replace hG := hG.only hO6
        replace hO6 := hO5.trans hO6
        obtain ⟨cl, ty, da⟩ := a
        simp only at hG hd
        by_cases h0 : y = 0
        · subst h0
          go_wp2_with fail
          refine (r_off b C len cap _ _ _ (by omega) (by omega) (by omega) (by omega) hR6).mono ?_
          rintro e w7 ⟨z, rfl, hq0, hq1, hR7, hO7⟩
          replace hG := hG.only hO7
          replace hO7 := hO6.trans hO7
          have a0 := hG.bx.2 0 _ rfl
          have y0 := hG.fx.2 0
          have hB8 := below_set (Below.refl wr.heap.size w7) ⟨g, 0, none⟩ (.int .i64 z) hgl
          have hO8 : Only b wr (w7.setCell ⟨g, 0, none⟩ (.int .i64 z)) := hO7.beyond (Nat.le_refl _) hB8
          have hR8 := hR7.kept (hB8.mono (by omega))
          have hG8 := (hG.set 0 (.int .i64 z)).bx
          have b0 := hG8.2 0 _ rfl
          have b1 := hG8.2 1 _ rfl
          have b2 := hG8.2 2 _ rfl
          have hone := oneOpG ⟨z, ty, da⟩
          have hcn := cells_new (w7.setCell ⟨g, 0, none⟩ (.int .i64 z)) [.int .i64 z, .int .i64 ty, .string da] 33
          have hs8 : (w7.setCell ⟨g, 0, none⟩ (.int .i64 z)).heap.size = w7.heap.size := by simp
          rw [hs8] at hcn
          clear hs8
          have ho9 := ownV_only ho hO8 hbw
          have hz9 := (hQ.trans hO8).size
          go_wp2_with (at_builtin; refine wpList_append_vals Try.infOpt rfl _ _ rfl w.heap.size _ _ _ rfl (ho9.alloc _) _ 1 1 [.int .i64 z, .int .i64 ty, .string da] rfl (by simp) rfl hone hcn (by omega) (by simp at hz9 ⊢; omega) ?_; intro v' wA hoA hbA)
          have hb6 := ((Below.refl w.heap.size (w7.setCell ⟨g, 0, none⟩ (.int .i64 z))).alloc hz9 _).trans hbA
          go_roundw
          case rel => exact ⟨k - 1, l ++ [⟨z, ty, da⟩], by first | go_num | (congr 1; omega), by simp; omega, by rw [opTot_app1]; simp only [List.length_append, List.length_cons, List.length_nil, opSz]; omega, by rw [opF_app, List.length_append]; exact hoA, (hR8).kept (hb6.mono (by omega)), only_far (hQ.trans hO8) hb6⟩
          case measure => simp [intOf]; omega
        · have h0b : (y == 0) = false := by simp [h0]
          by_cases h1 : y = 1
          · subst h1
            go_wp2_with fail
            refine (r_below b C len cap _ _ (by omega) hR6).mono ?_
            rintro e w7 ⟨z, rfl, hq0, hq1, hR7, hO7⟩
            replace hG := hG.only hO7
            replace hO7 := hO6.trans hO7
            obtain ⟨Z, rfl⟩ := Int.eq_ofNat_of_zero_le hq0
            have hZ2 : Z ≤ 2 := by omega
            have hw1 : IntKind.i64.wrap (4 * (Z : Int)) = 4 * (Z : Int) := wraps_i64 _ (by omega) (by omega)
            have hw2 : IntKind.i64.wrap (120 + 4 * (Z : Int)) = 120 + 4 * (Z : Int) := wraps_i64 _ (by omega) (by omega)
            have hlR : (List.replicate (120 + 4 * Z) (0 : UInt8)).length ≤ 128 := by rw [List.length_replicate]; omega
            have hone := fun r : ByteArray => oneOpG ⟨cl, ty, r⟩
            go_wp2_with (first
              | (at_make
                 refine wpList_make_bytes rfl _ _ rfl _ _ _ _ (120 + 4 * Z) rfl rfl (by omega) (by omega) (by omega) ?_
                 intro w8 hown hbm
                 generalize hrl : List.replicate (120 + 4 * Z) (0 : UInt8) = rl at hown hlR
                 have hst := run_string_own hown
                 have hG8a := hG.only (only_of hbm)
                 have a2 := hG8a.bx.2 2 _ rfl
                 have y2 := hG8a.fx.2 2
                 have hB8 := below_set (Below.refl wr.heap.size w8) ⟨g, 2, none⟩ (.string ⟨rl.toArray⟩) hgl
                 have hO8 : Only b wr (w8.setCell ⟨g, 2, none⟩ (.string ⟨rl.toArray⟩)) := (hO7.trans (only_of hbm)).beyond (Nat.le_refl _) hB8
                 have hR8 := (hR7.far hbm).kept (hB8.mono (by omega))
                 have hG8 := (hG8a.set 2 (.string ⟨rl.toArray⟩)).bx
                 have b0 := hG8.2 0 _ rfl
                 have b1 := hG8.2 1 _ rfl
                 have b2 := hG8.2 2 _ rfl
                 have hcn := cells_new (w8.setCell ⟨g, 2, none⟩ (.string ⟨rl.toArray⟩)) [.int .i64 cl, .int .i64 ty, .string ⟨rl.toArray⟩] 33
                 have hs8 : (w8.setCell ⟨g, 2, none⟩ (.string ⟨rl.toArray⟩)).heap.size = w8.heap.size := (by simp)
                 rw [hs8] at hcn
                 clear hs8
                 have ho9 := ownV_only ho hO8 hbw
                 have hz9 := (hQ.trans hO8).size
                 have hss : ByteArray.size ⟨rl.toArray⟩ = rl.length := str_size rl
                 clear hG8a hG8)
              | (at_builtin
                 refine wpList_append_vals Try.infOpt rfl _ _ rfl w.heap.size _ _ _ rfl (ho9.alloc _) _ 1 1 [.int .i64 cl, .int .i64 ty, .string ⟨rl.toArray⟩] rfl (by simp) rfl (hone _) hcn (by omega) (by simp at hz9 ⊢; omega) ?_
                 intro v' wA hoA hbA
                 have hb6 := ((Below.refl w.heap.size _).alloc hz9 _).trans hbA))
            go_roundw
            case rel => exact ⟨k - 1, l ++ [⟨cl, ty, ⟨rl.toArray⟩⟩], by first | go_num | (congr 1; omega), by simp; omega, by rw [opTot_app1]; simp only [List.length_append, List.length_cons, List.length_nil, opSz]; omega, by rw [opF_app, List.length_append]; exact hoA, hR8.kept (hb6.mono (by omega)), only_far (hQ.trans hO8) hb6⟩
            case measure => simp [intOf]; omega
          · have h1b : (y == 1) = false := by simp [h1]
            by_cases h2 : y = 2
            · subst h2
              have a2 := hG.bx.2 2 _ rfl
              have y2 := hG.fx.2 2
              have hB8 := below_set (Below.refl wr.heap.size w6) ⟨g, 2, none⟩ (.string ⟨#[97, 98, 99]⟩) hgl
              have hO8 : Only b wr (w6.setCell ⟨g, 2, none⟩ (.string ⟨#[97, 98, 99]⟩)) := hO6.beyond (Nat.le_refl _) hB8
              have hR8 := hR6.kept (hB8.mono (by omega))
              have hG8 := (hG.set 2 (.string ⟨#[97, 98, 99]⟩)).bx
              have b0 := hG8.2 0 _ rfl
              have b1 := hG8.2 1 _ rfl
              have b2 := hG8.2 2 _ rfl
              have hd3 : ByteArray.size ⟨#[97, 98, 99]⟩ = 3 := rfl
              have hone := oneOpG ⟨cl, ty, ⟨#[97, 98, 99]⟩⟩
              have hcn := cells_new (w6.setCell ⟨g, 2, none⟩ (.string ⟨#[97, 98, 99]⟩)) [.int .i64 cl, .int .i64 ty, .string ⟨#[97, 98, 99]⟩] 33
              have hs8 : (w6.setCell ⟨g, 2, none⟩ (.string ⟨#[97, 98, 99]⟩)).heap.size = w6.heap.size := by simp
              rw [hs8] at hcn
              clear hs8
              have ho9 := ownV_only ho hO8 hbw
              have hz9 := (hQ.trans hO8).size
              go_wp2_with (at_builtin; refine wpList_append_vals Try.infOpt rfl _ _ rfl w.heap.size _ _ _ rfl (ho9.alloc _) _ 1 1 [.int .i64 cl, .int .i64 ty, .string ⟨#[97, 98, 99]⟩] rfl (by simp) rfl hone hcn (by omega) (by simp at hz9 ⊢; omega) ?_; intro v' wA hoA hbA)
              have hb6 := ((Below.refl w.heap.size (w6.setCell ⟨g, 2, none⟩ (.string ⟨#[97, 98, 99]⟩))).alloc hz9 _).trans hbA
              go_roundw
              case rel => exact ⟨k - 1, l ++ [⟨cl, ty, ⟨#[97, 98, 99]⟩⟩], by first | go_num | (congr 1; omega), by simp; omega, by rw [opTot_app1]; simp only [List.length_append, List.length_cons, List.length_nil, opSz]; omega, by rw [opF_app, List.length_append]; exact hoA, (hR8).kept (hb6.mono (by omega)), only_far (hQ.trans hO8) hb6⟩
              case measure => simp [intOf]; omega
            · have h2b : (y == 2) = false := by simp [h2]
              have b0 := hG.bx.2 0 _ rfl
              have b1 := hG.bx.2 1 _ rfl
              have b2 := hG.bx.2 2 _ rfl
              clear h0 h1 h2
              have hone := oneOpG ⟨cl, ty, da⟩
              have hcn := cells_new w6 [.int .i64 cl, .int .i64 ty, .string da] 33
              have ho9 := ownV_only ho hO6 hbw
              have hz9 := (hQ.trans hO6).size
              go_wp2_with (at_builtin; refine wpList_append_vals Try.infOpt rfl _ _ rfl w.heap.size _ _ _ rfl (ho9.alloc _) _ 1 1 [.int .i64 cl, .int .i64 ty, .string da] rfl (by simp) rfl hone hcn (by omega) (by simp at hz9 ⊢; omega) ?_; intro v' wA hoA hbA)
              have hb6 := ((Below.refl w.heap.size w6).alloc hz9 _).trans hbA
              go_roundw
              case rel => exact ⟨k - 1, l ++ [⟨cl, ty, da⟩], by first | go_num | (congr 1; omega), by simp; omega, by rw [opTot_app1]; simp only [List.length_append, List.length_cons, List.length_nil, opSz]; omega, by rw [opF_app, List.length_append]; exact hoA, (hR6).kept (hb6.mono (by omega)), only_far (hQ.trans hO6) hb6⟩
              case measure => simp [intOf]; omega
    · have hk0 : k = 0 := by omega
      subst hk0
      go_wp2
      go_ret
      exact ⟨_, l, rfl, ho, by omega, by omega, hR, hQ⟩
end Go.Proofs.Ytnheppkjeoiipaa
