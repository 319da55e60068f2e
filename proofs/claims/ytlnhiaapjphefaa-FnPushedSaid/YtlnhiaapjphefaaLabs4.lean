/-
  Labels that are popped, by program and model.
-/
import Derived.Test.YtlnhiaapjphefaaLabs1
import Derived.Test.YtlnhiaapjphefaaTabs0
import Derived.Deep.RegionLaw
namespace Go.Proofs.Ytlnhiaapjphefaa
open Go.RowKit Go.PlainAid
def poB (l : List LbV) : Bool := lbsB l && !decide (l.length = 1)
def poR (l : List LbV) : List LbV := if poB l then l.tail else []
def poQ (l : List LbV) : LbV := if poB l then lbA l 0 else ⟨0, 0, 0⟩
theorem poR_len (l : List LbV) : (poR l).length ≤ l.length := by unfold poR; split <;> simp
theorem lbF_tail (l : List LbV) (h : 0 < l.length) : lbF l.tail = (lbF l).drop 3 := by
  cases l with
  | nil => simp at h
  | cons a l => rfl
/-- append of m records that are read at an address, as one step of a region that draws its order -/
theorem step_append_recs {W : World} {ops : Array Oper} {o : Oper} {a : Act} {K : Act → World → Prop} {Q : Exit → Act → World → Prop} {F : Prop} {S E : TypeId} {k : Nat} (hi : Inf S E k) (hgd : o.guard = none) (s x : Operand)
    (ho : o.op = .call { callee := .builtin .append, args := #[s, x], argTypes := #[S, S] })
    (B : Nat) (v : Value) (n : Nat) (xs : List Int) (hs : a.eval s = v) (hown : ownR W B E k v n xs) (ad : Addr) (m c : Nat) (ys : List Int) (hx : a.eval x = .slice (some ad) m c) (hy : ys.length = m * k) (hsrc : IntsAt W (some ad) ys)
    (hl : n + m ≤ 1099511627776) (hB : B ≤ W.heap.size)
    (h : ∀ v' w', ownR w' B E k v' (n + m) (xs ++ ys) → Below B W w' → K (a.put o.dst v') w') :
    if Region.wanted o (yielded ops a.tmps) = true then Oper.wp Try.prog o a W K Q else F := by
  have hw : Region.wanted o (yielded ops a.tmps) = true := by simp [Region.wanted, hgd]
  rw [if_pos hw]
  obtain ⟨i0, hi0, hz0, hz1, hz2⟩ := info_parts hi.inf
  have hle := hi.le
  have hpos := hi.pos
  have e3 : icells (xs ++ ys) = icells xs ++ icells ys := by simp [icells]
  have hmk : (n + m) * (8 * k) ≤ 140737488355328 := by
    calc (n + m) * (8 * k) ≤ (n + m) * (8 * 4) := Nat.mul_le_mul_left _ (by omega)
      _ ≤ 140737488355328 := by omega
  refine wp_append_own _ s x S ho B E i0 _ k (8 * k) hi.und hi0 hz0 hz1 hz2 (by simp [Value.cells]) hpos v n (icells xs) hs hown ad m c (icells ys) hx (by simpa [icells] using hy) ?_ icells_one (by unfold maxLen; omega) hmk hB ?_
  · intro j u hj
    rcases hsrc with hsrc | ⟨g, off, hT2, hg, hc⟩
    · subst hsrc; simp [icells] at hj
    · have hj' : j < ys.length := by
        rcases Nat.lt_or_ge j ys.length with h | h
        · exact h
        · simp [icells, List.getElem?_eq_none (show (ys.map fun c => Value.int .i64 c).length ≤ j by simpa using h)] at hj
      simp only [Option.some.injEq] at hT2
      subst hT2
      rw [icells_at ys j hj'] at hj
      rw [plain_add, hc j hj']; exact hj
  · intro v' w' h2 h3 _
    refine h v' w' ?_ ((Below.refl B W).grown h3 hB fun k hk => (World.ownsRow.lt hown k hk).1)
    unfold ownR
    rw [e3]; exact h2
set_option maxRecDepth 100000 in
set_option maxHeartbeats 3200000 in
theorem i_Popped (g off c : Nat) (l : List LbV) (w : World) (h : IntsAt w (some ⟨g, off, none⟩) (lbF l)) (hc : l.length ≤ c) (hl : l.length ≤ 1048576) :
    Calls Try.prog 42 #[.slice (some ⟨g, off, none⟩) l.length c] w fun e w' => ∃ v, e = .returned (.tuple #[v, .agg (lbL (poQ l)), .bool (poB l)]) ∧ ownR w' w.heap.size 55 3 v (poR l).length (lbF (poR l)) ∧ Below w.heap.size w w' := by
  have CA : Hid (∀ u : World, Below w.heap.size w u → Calls Try.prog 72 #[.slice (some ⟨g, off, none⟩) l.length c] u fun e w' => e = .returned (.bool (lbsB l)) ∧ Below u.heap.size u w') := fun u hu => i_areLabels _ c l u (h.below hu) (by omega)
  have HK : Hid (poB l = (lbsB l && !decide (l.length = 1))) := rfl
  have HN : Hid (poB l = false → poR l = [] ∧ poQ l = ⟨0, 0, 0⟩) := fun e => by unfold poR poQ; rw [e]; exact ⟨rfl, rfl⟩
  have HY : Hid (poB l = true → poR l = l.tail ∧ poQ l = lbA l 0) := fun e => by unfold poR poQ; rw [e]; exact ⟨rfl, rfl⟩
  have HL : Hid (lbsB l = true → 1 ≤ l.length) := fun e => (lbsB_len e).1
  generalize poR l = pr at *
  generalize poB l = pb at *
  generalize poQ l = pq at *
  have hW0 : Below w.heap.size w (w.alloc (.cells #[.int .i64 0, .int .i64 0, .int .i64 0] 55)) := (Below.refl _ w).alloc (Nat.le_refl _) _
  have hA : Bxl (w.alloc (.cells #[.int .i64 0, .int .i64 0, .int .i64 0] 55)) w.heap.size ⟨0, 0, 0⟩ := Bxl.new w ⟨0, 0, 0⟩
  have hF : ∀ j, (w.alloc (.cells #[.int .i64 0, .int .i64 0, .int .i64 0] 55)).frozen? ⟨w.heap.size, j, none⟩ = false := fun j => by simp
  have hFz : w.heap.size < (w.alloc (.cells #[.int .i64 0, .int .i64 0, .int .i64 0] 55)).heap.size := by simp
  go_enter Try.func42, Try.ntmps42
  go_wp2_with fail
  go_at_call 72
  refine (CA.out _ hW0).mono ?_
  rintro e w1 ⟨rfl, hb1⟩
  replace hA := hA.below hb1
  have hB := hW0.trans (hb1.mono hW0.size)
  have hfr : ∀ j, w1.frozen? ⟨w.heap.size, j, none⟩ = false := fun j => (World.frozen?_of_block (hb1.block w.heap.size hFz)).trans (hF j)
  clear hb1 hW0 hF hFz
  have x0 := hA.2.1
  have x1 := hA.2.2.1
  have x2 := hA.2.2.2
  have f0 := hfr 0
  have f1 := hfr 1
  have f2 := hfr 2
  have hz := hA.1
  cases h0 : lbsB l
  · rw [h0] at HK
    have e1 : pb = false := by rw [HK.out]; rfl
    obtain ⟨e2, e3⟩ := HN.out e1
    have EE : Hid (pb = false ∧ pr = [] ∧ pq = ⟨0, 0, 0⟩) := ⟨e1, e2, e3⟩
    clear HK HN HY HL e1 e2 e3
    go_wp2
    refine bodyPost_ret (v := .tuple #[.slice none 0 0, .agg #[.int .i64 0, .int .i64 0, .int .i64 0], .bool false]) ?_ rfl ?_
    · simp [results, Try.results42, go_sem, x0, x1, x2]
    · rw [EE.out.1, EE.out.2.1, EE.out.2.2]; exact ⟨_, rfl, ownR.nil _ _ _ _, by go_grown⟩
  · rw [h0] at HK
    have hl1 := HL.out h0
    by_cases h1 : l.length = 1
    · have e1 : pb = false := by rw [HK.out, decide_eq_true h1]; rfl
      obtain ⟨e2, e3⟩ := HN.out e1
      have EE : Hid (pb = false ∧ pr = [] ∧ pq = ⟨0, 0, 0⟩) := ⟨e1, e2, e3⟩
      have h1b : ((l.length : Int) == 1) = true := by simp; omega
      clear HK HN HY HL e1 e2 e3 h1
      go_wp2
      refine bodyPost_ret (v := .tuple #[.slice none 0 0, .agg #[.int .i64 0, .int .i64 0, .int .i64 0], .bool false]) ?_ rfl ?_
      · simp [results, Try.results42, go_sem, x0, x1, x2]
      · rw [EE.out.1, EE.out.2.1, EE.out.2.2]; exact ⟨_, rfl, ownR.nil _ _ _ _, by go_grown⟩
    · have e1 : pb = true := by rw [HK.out, decide_eq_false h1]; rfl
      obtain ⟨e2, e3⟩ := HY.out e1
      have EE : Hid (pb = true ∧ pr = l.tail ∧ pq = lbA l 0) := ⟨e1, e2, e3⟩
      have h1b : ((l.length : Int) == 1) = false := by simp; omega
      have hc1 : ¬ c = 1 := by omega
      have hi1 : (1 : Int) ≤ (l.length : Int) := by omega
      have hi2 : (l.length : Int) ≤ (c : Int) := by omega
      have hi3 : (0 : Int) < (l.length : Int) := by omega
      have hi4 : 0 < l.length := by omega
      have hgw : g < w.heap.size := by
        rcases h with hI | ⟨g', off', hg1, hg, _⟩
        · have := lbF_len l; rw [hI] at this; simp at this; omega
        · simp only [Option.some.injEq, Addr.mk.injEq, and_true] at hg1
          rw [hg1.1]; exact hg
      clear HK HN HY HL e1 e2 e3
      have hI := h.below hB
      have hI2 : IntsAt w1 (some ⟨g, off + 3, none⟩) (lbF l.tail) := by rw [lbF_tail l (by omega)]; exact ints_drop hI 3
      rcases hI with hI | ⟨g', off', hg1, hg, hcs⟩
      · have := lbF_len l; rw [hI] at this; simp at this; omega
      simp only [Option.some.injEq, Addr.mk.injEq, and_true] at hg1
      obtain ⟨rfl, rfl⟩ := hg1
      have hq := lb_cells hcs 0 (by omega)
      simp only [Nat.zero_mul, Nat.add_zero] at hq
      obtain ⟨c0, c1, c2⟩ := hq
      clear hcs
      have hlt : (lbF l.tail).length = (l.length - 1) * 3 := by rw [lbF_len]; simp
      generalize lbA l 0 = b at *
      obtain ⟨b0, b1, b2⟩ := b
      have hO : ownR ((w1.drew).alloc (.cells #[] 55)) w1.heap.size 55 3 (.slice (some ⟨w1.heap.size, 0, none⟩) 0 0) 0 [] := World.ownsRow_made w1.drew #[] 0 (Nat.le_refl _) (by decide) rfl
      have hI3 : IntsAt ((w1.drew).alloc (.cells #[] 55)) (some ⟨g, off + 3, none⟩) (lbF l.tail) := hI2.below (((Below.refl _ w1).drew).alloc (Nat.le_refl _) _)
      have hW1 : Below w1.heap.size w1 ((w1.drew).alloc (.cells #[] 55)) := ((Below.refl _ w1).drew).alloc (Nat.le_refl _) _
      have hgn : g ≠ w.heap.size := by omega
      go_wp2_with fail
      go_region_law (refine step_append_recs Try.infLabel rfl _ _ rfl w1.heap.size _ 0 [] rfl hO ⟨g, off + 3, none⟩ (l.length - 1) (c - 1) (lbF l.tail) rfl hlt hI3 (by omega) (by simp) ?_; intro v' w3 ho3 hb3; have hB3 := hW1.trans hb3; clear hb3; have k0 := (hB3.cell (p := ⟨g, off, none⟩) hg).trans c0; have k1 := (hB3.cell (p := ⟨g, off + 1, none⟩) hg).trans c1; have k2 := (hB3.cell (p := ⟨g, off + 2, none⟩) hg).trans c2; have y0 := (hB3.cell (p := ⟨w.heap.size, 0, none⟩) hz).trans x0; have y1 := (hB3.cell (p := ⟨w.heap.size, 1, none⟩) hz).trans x1; have y2 := (hB3.cell (p := ⟨w.heap.size, 2, none⟩) hz).trans x2; have z0 := (World.frozen?_of_block (a := ⟨w.heap.size, 0, none⟩) (hB3.block w.heap.size hz)).trans f0; have z1 := (World.frozen?_of_block (a := ⟨w.heap.size, 1, none⟩) (hB3.block w.heap.size hz)).trans f1; have z2 := (World.frozen?_of_block (a := ⟨w.heap.size, 2, none⟩) (hB3.block w.heap.size hz)).trans f2)
      all_goals
        go_wp2
        refine bodyPost_ret (v := .tuple #[v', .agg #[.int .i64 b0, .int .i64 b1, .int .i64 b2], .bool true]) ?_ rfl ?_
        · simp [results, Try.results42, go_sem, y0, y1, y2]
        · rw [EE.out.1, EE.out.2.1, EE.out.2.2]
          refine ⟨_, rfl, ?_, ?_⟩
          · have q1 : ownR w3 w1.heap.size 55 3 v' l.tail.length (lbF l.tail) := by simpa using ho3
            have q2 := World.ownsRow.lt q1
            exact (own_kept q1 (grown_set (grown_set (grown_set (grownBy_refl w3 (some w.heap.size)) _ _ rfl) _ _ rfl) _ _ rfl) (fun b hb => by have := (q2 b hb).1; simp; omega)).mono hB.size
          · exact below_set (below_set (below_set (hB.trans (hB3.mono hB.size)) _ _ (Nat.le_refl _)) _ _ (Nat.le_refl _)) _ _ (Nat.le_refl _)
set_option maxRecDepth 100000 in
set_option maxHeartbeats 3200000 in
theorem s_Popped (g off c : Nat) (l : List LbV) (w : World) (h : IntsAt w (some ⟨g, off, none⟩) (lbF l)) (hc : l.length ≤ c) (hl : l.length ≤ 1048576) :
    Calls Try.prog 43 #[.slice (some ⟨g, off, none⟩) l.length c] w fun e w' => ∃ v, e = .returned (.tuple #[v, .agg (lbL (poQ l)), .bool (poB l)]) ∧ ownR w' w.heap.size 55 3 v (poR l).length (lbF (poR l)) ∧ Below w.heap.size w w' := by
  have CA : Hid (∀ u : World, Below w.heap.size w u → Calls Try.prog 74 #[.slice (some ⟨g, off, none⟩) l.length c] u fun e w' => e = .returned (.bool (lbsB l)) ∧ Below u.heap.size u w') := fun u hu => s_Labels _ c l u (h.below hu) (by omega)
  have HK : Hid (poB l = (lbsB l && !decide (l.length = 1))) := rfl
  have HN : Hid (poB l = false → poR l = [] ∧ poQ l = ⟨0, 0, 0⟩) := fun e => by unfold poR poQ; rw [e]; exact ⟨rfl, rfl⟩
  have HY : Hid (poB l = true → poR l = l.tail ∧ poQ l = lbA l 0) := fun e => by unfold poR poQ; rw [e]; exact ⟨rfl, rfl⟩
  have HL : Hid (lbsB l = true → 1 ≤ l.length) := fun e => (lbsB_len e).1
  generalize poR l = pr at *
  generalize poB l = pb at *
  generalize poQ l = pq at *
  have hW0 : Below w.heap.size w (w.alloc (.cells #[.int .i64 0, .int .i64 0, .int .i64 0] 55)) := (Below.refl _ w).alloc (Nat.le_refl _) _
  have hA : Bxl (w.alloc (.cells #[.int .i64 0, .int .i64 0, .int .i64 0] 55)) w.heap.size ⟨0, 0, 0⟩ := Bxl.new w ⟨0, 0, 0⟩
  have hF : ∀ j, (w.alloc (.cells #[.int .i64 0, .int .i64 0, .int .i64 0] 55)).frozen? ⟨w.heap.size, j, none⟩ = false := fun j => by simp
  have hFz : w.heap.size < (w.alloc (.cells #[.int .i64 0, .int .i64 0, .int .i64 0] 55)).heap.size := by simp
  go_enter Try.func43, Try.ntmps43
  go_wp2_with fail
  go_at_call 74
  refine (CA.out _ hW0).mono ?_
  rintro e w1 ⟨rfl, hb1⟩
  replace hA := hA.below hb1
  have hB := hW0.trans (hb1.mono hW0.size)
  have hfr : ∀ j, w1.frozen? ⟨w.heap.size, j, none⟩ = false := fun j => (World.frozen?_of_block (hb1.block w.heap.size hFz)).trans (hF j)
  clear hb1 hW0 hF hFz
  have x0 := hA.2.1
  have x1 := hA.2.2.1
  have x2 := hA.2.2.2
  have f0 := hfr 0
  have f1 := hfr 1
  have f2 := hfr 2
  have hz := hA.1
  cases h0 : lbsB l
  · rw [h0] at HK
    have e1 : pb = false := by rw [HK.out]; rfl
    obtain ⟨e2, e3⟩ := HN.out e1
    have EE : Hid (pb = false ∧ pr = [] ∧ pq = ⟨0, 0, 0⟩) := ⟨e1, e2, e3⟩
    clear HK HN HY HL e1 e2 e3
    go_wp2
    refine bodyPost_ret (v := .tuple #[.slice none 0 0, .agg #[.int .i64 0, .int .i64 0, .int .i64 0], .bool false]) ?_ rfl ?_
    · simp [results, Try.results43, go_sem, x0, x1, x2]
    · rw [EE.out.1, EE.out.2.1, EE.out.2.2]; exact ⟨_, rfl, ownR.nil _ _ _ _, by go_grown⟩
  · rw [h0] at HK
    have hl1 := HL.out h0
    by_cases h1 : l.length = 1
    · have e1 : pb = false := by rw [HK.out, decide_eq_true h1]; rfl
      obtain ⟨e2, e3⟩ := HN.out e1
      have EE : Hid (pb = false ∧ pr = [] ∧ pq = ⟨0, 0, 0⟩) := ⟨e1, e2, e3⟩
      have h1b : ((l.length : Int) == 1) = true := by simp; omega
      clear HK HN HY HL e1 e2 e3 h1
      go_wp2
      refine bodyPost_ret (v := .tuple #[.slice none 0 0, .agg #[.int .i64 0, .int .i64 0, .int .i64 0], .bool false]) ?_ rfl ?_
      · simp [results, Try.results43, go_sem, x0, x1, x2]
      · rw [EE.out.1, EE.out.2.1, EE.out.2.2]; exact ⟨_, rfl, ownR.nil _ _ _ _, by go_grown⟩
    · have e1 : pb = true := by rw [HK.out, decide_eq_false h1]; rfl
      obtain ⟨e2, e3⟩ := HY.out e1
      have EE : Hid (pb = true ∧ pr = l.tail ∧ pq = lbA l 0) := ⟨e1, e2, e3⟩
      have h1b : ((l.length : Int) == 1) = false := by simp; omega
      have hc1 : ¬ c = 1 := by omega
      have hi1 : (1 : Int) ≤ (l.length : Int) := by omega
      have hi2 : (l.length : Int) ≤ (c : Int) := by omega
      have hi3 : (0 : Int) < (l.length : Int) := by omega
      have hi4 : 0 < l.length := by omega
      have hgw : g < w.heap.size := by
        rcases h with hI | ⟨g', off', hg1, hg, _⟩
        · have := lbF_len l; rw [hI] at this; simp at this; omega
        · simp only [Option.some.injEq, Addr.mk.injEq, and_true] at hg1
          rw [hg1.1]; exact hg
      clear HK HN HY HL e1 e2 e3
      have hI := h.below hB
      have hI2 : IntsAt w1 (some ⟨g, off + 3, none⟩) (lbF l.tail) := by rw [lbF_tail l (by omega)]; exact ints_drop hI 3
      rcases hI with hI | ⟨g', off', hg1, hg, hcs⟩
      · have := lbF_len l; rw [hI] at this; simp at this; omega
      simp only [Option.some.injEq, Addr.mk.injEq, and_true] at hg1
      obtain ⟨rfl, rfl⟩ := hg1
      have hq := lb_cells hcs 0 (by omega)
      simp only [Nat.zero_mul, Nat.add_zero] at hq
      obtain ⟨c0, c1, c2⟩ := hq
      clear hcs
      have hlt : (lbF l.tail).length = (l.length - 1) * 3 := by rw [lbF_len]; simp
      generalize lbA l 0 = b at *
      obtain ⟨b0, b1, b2⟩ := b
      have hO : ownR ((w1.drew).alloc (.cells #[] 55)) w1.heap.size 55 3 (.slice (some ⟨w1.heap.size, 0, none⟩) 0 0) 0 [] := World.ownsRow_made w1.drew #[] 0 (Nat.le_refl _) (by decide) rfl
      have hI3 : IntsAt ((w1.drew).alloc (.cells #[] 55)) (some ⟨g, off + 3, none⟩) (lbF l.tail) := hI2.below (((Below.refl _ w1).drew).alloc (Nat.le_refl _) _)
      have hW1 : Below w1.heap.size w1 ((w1.drew).alloc (.cells #[] 55)) := ((Below.refl _ w1).drew).alloc (Nat.le_refl _) _
      have hgn : g ≠ w.heap.size := by omega
      go_wp2_with fail
      go_region_law (refine step_append_recs Try.infLabel rfl _ _ rfl w1.heap.size _ 0 [] rfl hO ⟨g, off + 3, none⟩ (l.length - 1) (c - 1) (lbF l.tail) rfl hlt hI3 (by omega) (by simp) ?_; intro v' w3 ho3 hb3; have hB3 := hW1.trans hb3; clear hb3; have k0 := (hB3.cell (p := ⟨g, off, none⟩) hg).trans c0; have k1 := (hB3.cell (p := ⟨g, off + 1, none⟩) hg).trans c1; have k2 := (hB3.cell (p := ⟨g, off + 2, none⟩) hg).trans c2; have y0 := (hB3.cell (p := ⟨w.heap.size, 0, none⟩) hz).trans x0; have y1 := (hB3.cell (p := ⟨w.heap.size, 1, none⟩) hz).trans x1; have y2 := (hB3.cell (p := ⟨w.heap.size, 2, none⟩) hz).trans x2; have z0 := (World.frozen?_of_block (a := ⟨w.heap.size, 0, none⟩) (hB3.block w.heap.size hz)).trans f0; have z1 := (World.frozen?_of_block (a := ⟨w.heap.size, 1, none⟩) (hB3.block w.heap.size hz)).trans f1; have z2 := (World.frozen?_of_block (a := ⟨w.heap.size, 2, none⟩) (hB3.block w.heap.size hz)).trans f2)
      all_goals
        go_wp2
        refine bodyPost_ret (v := .tuple #[v', .agg #[.int .i64 b0, .int .i64 b1, .int .i64 b2], .bool true]) ?_ rfl ?_
        · simp [results, Try.results43, go_sem, y0, y1, y2]
        · rw [EE.out.1, EE.out.2.1, EE.out.2.2]
          refine ⟨_, rfl, ?_, ?_⟩
          · have q1 : ownR w3 w1.heap.size 55 3 v' l.tail.length (lbF l.tail) := by simpa using ho3
            have q2 := World.ownsRow.lt q1
            exact (own_kept q1 (grown_set (grown_set (grown_set (grownBy_refl w3 (some w.heap.size)) _ _ rfl) _ _ rfl) _ _ rfl) (fun b hb => by have := (q2 b hb).1; simp; omega)).mono hB.size
          · exact below_set (below_set (below_set (hB.trans (hB3.mono hB.size)) _ _ (Nat.le_refl _)) _ _ (Nat.le_refl _)) _ _ (Nat.le_refl _)
end Go.Proofs.Ytlnhiaapjphefaa
