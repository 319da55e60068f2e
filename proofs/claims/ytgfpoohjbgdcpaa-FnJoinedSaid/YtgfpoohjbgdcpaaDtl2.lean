/-
  The draw of lists of datagrams that tile, or nearly so.
-/
import Derived.Test.YtgfpoohjbgdcpaaDtl1
import Derived.Deep.Cut
import Derived.Deep.CutRange
namespace Go.Proofs.Ytgfpoohjbgdcpaa
open Go.RowKit Go.PlainAid
theorem frL_bound (p : IpV) (mtu : Int) : (frL p mtu).length ≤ 8193 ∧ iqTot (frL p mtu) ≤ 393300 ∧ ∀ i, i < (frL p mtu).length → (0 ≤ (iqA (frL p mtu) i).off ∧ (iqA (frL p mtu) i).off ≤ 8191) ∧ (iqA (frL p mtu) i).data.size ≤ 65535 ∧ (iqA (frL p mtu) i).opts.size ≤ 40 := by
  by_cases h : frC p mtu = 0
  · obtain ⟨hA, hq, _, _⟩ := frL_all h
    have h1 := hA.many
    have h2 := hA.tot
    have h3 := hq.len
    refine ⟨by omega, by omega, fun i hi => ?_⟩
    have h4 := (hA.each i hi).1
    exact ⟨h4.off, by have := h4.len; omega, h4.opts.1⟩
  · have e : frL p mtu = [] := by unfold frL; rw [if_neg h]
    rw [e]
    exact ⟨by simp, by simp [iqTot, totV], fun i hi => by simp at hi⟩
theorem iqSz_le {q : IpV} (h1 : q.data.size ≤ 65600) (h2 : q.opts.size ≤ 50) : iqSz q ≤ 65650 := by unfold iqSz; omega
def dtF (W0 : World) (R g A n c : Nat) (l : List IpV) : Nat → Value → World → Prop
  | 0, x, _ => x = .slice (some ⟨g, 0, none⟩) n c
  | 1, x, _ => x = .int .i64 (A : Int)
  | 2, x, _ => x = .slice (some ⟨g, 0, none⟩) A c
  | 3, x, _ => x = .slice (some ⟨g, 0, none⟩) n c
  | 4, x, _ => x = .int .i64 (A : Int)
  | 5, x, _ => x = .int .i64 ((A : Int) + 1)
  | 6, x, _ => ∃ ad c6, x = .slice (some ad) (n - (A + 1)) c6 ∧ ∀ j u, (iqF (l.drop (A + 1)))[j]? = some u → W0.cell? (ad.add j) = some u
  | 7, x, u => ownV u R 28 11 x (A + (n - (A + 1))) (iqF (l.take A) ++ iqF (l.drop (A + 1)))
  | 8, _, _ => True
  | _ + 9, _, _ => True
theorem QK.nextN {N : Nat} {I : World → Prop} {F : Nat → Value → World → Prop} {fin : (Nat → Value) → World → Prop} {L : Nat → Bool} {v : Nat → Value} {w w' : World} (h : QK N I F fin L v w) (n : Nat) (x : Value) (hn : n < N) (hL : L n = false) (hI : I w') (hS : ∀ i y, i ≠ n → F i y w → F i y w') (hx : F n x w') : QK N I F fin (updB L n) (updV v n x) w' := by
  have h14 := h.hN hn hL
  have e14 : updB L n N = false := by unfold updB; rw [if_neg (by omega)]; exact h14
  refine ⟨hI, fun _ i hi => ?_, fun h' => (by rw [e14] at h'; cases h'), fun h' => (by rw [e14] at h'; cases h')⟩
  by_cases hin : i = n
  · subst hin; rw [updV_same]; exact hx
  · rw [updV_ne _ _ hin]
    have : L i = true := by unfold updB at hi; rw [if_neg hin] at hi; exact hi
    exact hS i _ hin (h.F h14 i this)
theorem dtF_any {W0 u u1 : World} {R g A n c : Nat} {l : List IpV} (i : Nat) (y : Value) (h : dtF W0 R g A n c l i y u) : i ≠ 7 → dtF W0 R g A n c l i y u1 := by
  intro h7
  match i, h, h7 with
  | 0, h, _ => exact h
  | 1, h, _ => exact h
  | 2, h, _ => exact h
  | 3, h, _ => exact h
  | 4, h, _ => exact h
  | 5, h, _ => exact h
  | 6, h, _ => exact h
  | 8, h, _ => exact h
  | _ + 9, h, _ => exact h
theorem opwp_append_ips {W : World} {o : Oper} {a : Act} {K : Act → World → Prop} {Q : Exit → Act → World → Prop} {S E : TypeId} {k b : Nat} {z : Array Value} (hi : InfV S E k b z) (hgd : o.guard = none) (s x : Operand)
    (ho : o.op = .call { callee := .builtin .append, args := #[s, x], argTypes := #[S, S] })
    (B : Nat) (v : Value) (n : Nat) (xs : List Value) (hs : a.eval s = v) (hown : ownV W B E k v n xs) (ad : Addr) (m c : Nat) (ys : List Value) (hx : a.eval x = .slice (some ad) m c) (hy : ys.length = m * k) (hone : ∀ u ∈ ys, u.oneCell' = true) (hsrc : ∀ j u, ys[j]? = some u → W.cell? (ad.add j) = some u)
    (hl : n + m ≤ 1099511627776) (hB : B ≤ W.heap.size)
    (h : ∀ v' w', ownV w' B E k v' (n + m) (xs ++ ys) → Below B W w' → K (a.put o.dst v') w') : Oper.wp Try.prog o a W K Q := by
  have := step_append_ips (ops := #[]) (F := False) (Q := Q) hi hgd s x ho B v n xs hs hown ad m c ys hx hy hone hsrc hl hB h
  rwa [if_pos (by simp [Region.wanted, hgd])] at this
set_option maxRecDepth 100000 in
set_option maxHeartbeats 12800000 in
theorem d_Tiles (B : Nat) (C : Option Addr) (len cap : Nat) (w : World) (h : Code w B C len) :
    Calls Try.prog 52 #[.slice C len cap] w fun e w' => ∃ (v : Value) (l : List IpV), e = .returned v ∧ ownV w' w.heap.size 28 11 v l.length (iqF l) ∧ l.length + iqTot l ≤ 1048576 ∧ Below w.heap.size w w' := by
  go_enter Try.func52, Try.ntmps52
  go_wp2_with fail
  refine (r_Open B C len cap _ h).mono ?_
  rintro e w1 ⟨rfl, hd1, hB, hs1⟩
  go_wp2_with fail
  refine (r_long _ C len cap _ hd1).mono ?_
  rintro e w2 ⟨p, rfl, hpd, hpo, hd2, hO2⟩
  replace hB := hB.trans (hO2.below (Nat.le_refl _) hB.size)
  clear hO2 hd1
  go_wp2_with fail
  refine (r_mtu _ C len cap _ hd2).mono ?_
  rintro e w3 ⟨y, rfl, hd3, hO3⟩
  replace hB := hB.trans (hO3.below (Nat.le_refl _) hB.size)
  clear hO3 hd2
  go_wp2_with fail
  refine (s_Fragments p y _ (by omega) (by omega)).mono ?_
  rintro e w4 ⟨v, rfl, hv, hb⟩
  have hlt3 := hd3.lt
  have hd4 := hd3.far hb
  replace hB := hB.trans (hb.mono hB.size)
  have hwl := hB.size
  clear hb hd3
  obtain ⟨hn1, hn2, hn3⟩ := frL_bound p y
  generalize frC p y = pc at *
  generalize frL p y = l at *
  generalize hR : w3.heap.size = R at *
  obtain ⟨T, c, rfl⟩ := hv.form
  by_cases hl0 : l.length = 0
  · obtain rfl := List.length_eq_zero_iff.1 hl0
    have hv2 : ownV w4 w.heap.size 28 11 (.slice T 0 c) ([] : List IpV).length (iqF []) := hv.mono (by omega)
    clear hv hn3 hl0
    simp only [List.length_nil]
    go_wp2
    refine bodyPost_ret (v := .slice T 0 c) ?_ rfl ⟨_, [], rfl, hv2, by omega, hB⟩
    simp [results, Try.results52, go_sem]
  · have hz : ((l.length : Int) == 0) = false := by rw [beq_eq_false_iff_ne]; omega
    rcases hv.shape with ⟨_, h0, _⟩ | ⟨g, cap', e, hgR, hgl, hlc, hcm⟩
    · omega
    · simp only [Value.slice.injEq] at e
      obtain ⟨rfl, _, rfl⟩ := e
      go_wp2_with fail
      refine (r_below _ C len cap (l.length : Int) _ (Int.le_trans (Int.ofNat_le.2 hn1) (by decide)) hd4).mono ?_
      rintro e w5 ⟨x, rfl, hx0, hx1, hd5, hO5⟩
      obtain ⟨A, rfl⟩ := Int.eq_ofNat_of_zero_le hx0
      have hA : A < l.length := by omega
      have hAi : (A : Int) < (l.length : Int) := by omega
      replace hv := hv.keptF hO5 (fun b hb e => by cases e; omega)
      replace hB := hB.trans (hO5.below (Nat.le_refl _) hB.size)
      clear hO5 hd4 hx0 hx1
      go_wp2_with fail
      refine (r_below _ C len cap _ _ (by omega) hd5).mono ?_
      rintro e w6 ⟨z, rfl, hz0, hz1, hd6, hO6⟩
      replace hv := hv.keptF hO6 (fun b hb e => by cases e; omega)
      replace hB := hB.trans (hO6.below (Nat.le_refl _) hB.size)
      clear hO6 hd5
      have hcell := fun j hj => (hv.cell (A * 11 + j) (by omega)).trans (iqF_at l A hA j hj)
      obtain ⟨hx3, hx4, hx5⟩ := hn3 A hA
      have hcases : z = 0 ∨ z = 1 ∨ z = 2 ∨ z = 3 ∨ z = 4 ∨ 5 ≤ z := by omega
      rcases hcases with rfl | rfl | rfl | rfl | rfl | hz5
      · have CH : Hid (∀ u : World, RdI u w.heap.size C len cap → Calls Try.prog 37 #[.pointer (some ⟨w.heap.size, 0, none⟩), .agg (ipL (iqA l A))] u fun e w' => ∃ q : IpV, e = .returned (.agg (ipL q)) ∧ q.data.size ≤ 65600 ∧ q.opts.size ≤ 50 ∧ RdI w' w.heap.size C len cap ∧ Only w.heap.size u w') := fun u hu => r_hurtIp _ C len cap (iqA l A) u (by omega) (by omega) hu
        simp only [ipL] at CH hcell
        have k0 : w6.cell? ⟨g, A * 11, none⟩ = some (.int .i64 (iqA l A).tos) := hcell 0 (by omega)
        have k1 : w6.cell? ⟨g, A * 11 + 1, none⟩ = some (.int .i64 (iqA l A).id) := hcell 1 (by omega)
        have k2 : w6.cell? ⟨g, A * 11 + 2, none⟩ = some (.bool (iqA l A).df) := hcell 2 (by omega)
        have k3 : w6.cell? ⟨g, A * 11 + 3, none⟩ = some (.bool (iqA l A).mf) := hcell 3 (by omega)
        have k4 : w6.cell? ⟨g, A * 11 + 4, none⟩ = some (.int .i64 (iqA l A).off) := hcell 4 (by omega)
        have k5 : w6.cell? ⟨g, A * 11 + 5, none⟩ = some (.int .i64 (iqA l A).ttl) := hcell 5 (by omega)
        have k6 : w6.cell? ⟨g, A * 11 + 6, none⟩ = some (.int .i64 (iqA l A).pro) := hcell 6 (by omega)
        have k7 : w6.cell? ⟨g, A * 11 + 7, none⟩ = some (.int .i64 (iqA l A).src) := hcell 7 (by omega)
        have k8 : w6.cell? ⟨g, A * 11 + 8, none⟩ = some (.int .i64 (iqA l A).dst) := hcell 8 (by omega)
        have k9 : w6.cell? ⟨g, A * 11 + 9, none⟩ = some (.string (iqA l A).opts) := hcell 9 (by omega)
        have k10 : w6.cell? ⟨g, A * 11 + 10, none⟩ = some (.string (iqA l A).data) := hcell 10 (by omega)
        have hgl6 := (World.ownsRow.lt hv g rfl).2
        clear hcell
        go_wp2_with fail
        refine (CH.out _ hd6).mono ?_
        rintro e w7 ⟨q, rfl, hqd, hqo, hd7, hO7⟩
        replace hv := hv.keptF hO7 (fun b hb e => by cases e; omega)
        replace hB := hB.trans (hO7.below (Nat.le_refl _) hB.size)
        clear hO7 CH k0 k1 k2 k3 k4 k5 k6 k7 k8 k9 k10
        obtain ⟨x0, hx100⟩ := hv.has (A * 11) (by omega)
        have hf100 := hv.frozen (A * 11)
        obtain ⟨x1, hx101⟩ := hv.has (A * 11 + 1) (by omega)
        have hf101 := hv.frozen (A * 11 + 1)
        obtain ⟨x2, hx102⟩ := hv.has (A * 11 + 2) (by omega)
        have hf102 := hv.frozen (A * 11 + 2)
        obtain ⟨x3, hx103⟩ := hv.has (A * 11 + 3) (by omega)
        have hf103 := hv.frozen (A * 11 + 3)
        obtain ⟨x4, hx104⟩ := hv.has (A * 11 + 4) (by omega)
        have hf104 := hv.frozen (A * 11 + 4)
        obtain ⟨x5, hx105⟩ := hv.has (A * 11 + 5) (by omega)
        have hf105 := hv.frozen (A * 11 + 5)
        obtain ⟨x6, hx106⟩ := hv.has (A * 11 + 6) (by omega)
        have hf106 := hv.frozen (A * 11 + 6)
        obtain ⟨x7, hx107⟩ := hv.has (A * 11 + 7) (by omega)
        have hf107 := hv.frozen (A * 11 + 7)
        obtain ⟨x8, hx108⟩ := hv.has (A * 11 + 8) (by omega)
        have hf108 := hv.frozen (A * 11 + 8)
        obtain ⟨x9, hx109⟩ := hv.has (A * 11 + 9) (by omega)
        have hf109 := hv.frozen (A * 11 + 9)
        obtain ⟨x10, hx110⟩ := hv.has (A * 11 + 10) (by omega)
        have hf110 := hv.frozen (A * 11 + 10)
        have hst := (((((((((((hv).stored (A * 11) (.int .i64 q.tos)).stored (A * 11 + 1) (.int .i64 q.id)).stored (A * 11 + 2) (.bool q.df)).stored (A * 11 + 3) (.bool q.mf)).stored (A * 11 + 4) (.int .i64 q.off)).stored (A * 11 + 5) (.int .i64 q.ttl)).stored (A * 11 + 6) (.int .i64 q.pro)).stored (A * 11 + 7) (.int .i64 q.src)).stored (A * 11 + 8) (.int .i64 q.dst)).stored (A * 11 + 9) (.string q.opts)).stored (A * 11 + 10) (.string q.data)
        rw [iqF_setq l A hA q] at hst
        have hsz := iqTot_set l A hA q
        have hqs := iqSz_le hqd hqo
        have hBs := below_set (below_set (below_set (below_set (below_set (below_set (below_set (below_set (below_set (below_set (below_set (hB) ⟨g, A * 11, none⟩ (.int .i64 q.tos) (by show w.heap.size ≤ g; omega)) ⟨g, A * 11 + 1, none⟩ (.int .i64 q.id) (by show w.heap.size ≤ g; omega)) ⟨g, A * 11 + 2, none⟩ (.bool q.df) (by show w.heap.size ≤ g; omega)) ⟨g, A * 11 + 3, none⟩ (.bool q.mf) (by show w.heap.size ≤ g; omega)) ⟨g, A * 11 + 4, none⟩ (.int .i64 q.off) (by show w.heap.size ≤ g; omega)) ⟨g, A * 11 + 5, none⟩ (.int .i64 q.ttl) (by show w.heap.size ≤ g; omega)) ⟨g, A * 11 + 6, none⟩ (.int .i64 q.pro) (by show w.heap.size ≤ g; omega)) ⟨g, A * 11 + 7, none⟩ (.int .i64 q.src) (by show w.heap.size ≤ g; omega)) ⟨g, A * 11 + 8, none⟩ (.int .i64 q.dst) (by show w.heap.size ≤ g; omega)) ⟨g, A * 11 + 9, none⟩ (.string q.opts) (by show w.heap.size ≤ g; omega)) ⟨g, A * 11 + 10, none⟩ (.string q.data) (by show w.heap.size ≤ g; omega)
        go_wp2
        refine bodyPost_ret (v := .slice (some ⟨g, 0, none⟩) l.length c) ?_ rfl ⟨_, l.set A q, rfl, by rw [List.length_set]; exact hst.mono (by omega), by rw [List.length_set]; omega, hBs⟩
        simp [results, Try.results52, go_sem]
      · simp only [ipL] at hcell
        have k4 : w6.cell? ⟨g, A * 11 + 4, none⟩ = some (.int .i64 (iqA l A).off) := hcell 4 (by omega)
        have f4 := hv.frozen (A * 11 + 4)
        have hwr : IntKind.i64.wrap ((iqA l A).off + 1) = (iqA l A).off + 1 := wraps_i64 _ (by omega) (by omega)
        have hst := hv.stored (A * 11 + 4) (.int .i64 ((iqA l A).off + 1))
        rw [iqF_setj l A hA 4 (by omega) _ ⟨(iqA l A).tos, (iqA l A).id, (iqA l A).df, (iqA l A).mf, (iqA l A).off + 1, (iqA l A).ttl, (iqA l A).pro, (iqA l A).src, (iqA l A).dst, (iqA l A).opts, (iqA l A).data⟩ rfl] at hst
        have hsz := iqTot_set l A hA ⟨(iqA l A).tos, (iqA l A).id, (iqA l A).df, (iqA l A).mf, (iqA l A).off + 1, (iqA l A).ttl, (iqA l A).pro, (iqA l A).src, (iqA l A).dst, (iqA l A).opts, (iqA l A).data⟩
        have hqs := iqSz_le (q := ⟨(iqA l A).tos, (iqA l A).id, (iqA l A).df, (iqA l A).mf, (iqA l A).off + 1, (iqA l A).ttl, (iqA l A).pro, (iqA l A).src, (iqA l A).dst, (iqA l A).opts, (iqA l A).data⟩) (by dsimp only; omega) (by dsimp only; omega)
        have hBs := below_set hB ⟨g, A * 11 + 4, none⟩ (.int .i64 ((iqA l A).off + 1)) (by show w.heap.size ≤ g; omega)
        clear hcell
        go_wp2
        refine bodyPost_ret (v := .slice (some ⟨g, 0, none⟩) l.length c) ?_ rfl ⟨_, l.set A _, rfl, by rw [List.length_set]; exact hst.mono (by omega), by rw [List.length_set]; omega, hBs⟩
        simp [results, Try.results52, go_sem]
      · clear hcell
        have hAc : (A : Int) ≤ (c : Int) := by omega
        have hAc1 : (A : Int) + 1 ≤ (l.length : Int) := by omega
        have hAw : IntKind.i64.wrap ((A : Int) + 1) = (A : Int) + 1 := wraps_i64 _ (by omega) (by omega)
        have hlc2 : (l.length : Int) ≤ (c : Int) := by omega
        have hgl6 := (World.ownsRow.lt hv g rfl).2
        have hRl : R ≤ w6.heap.size := by omega
        have hIf : (if c = A + 1 then some (⟨g, 0, none⟩ : Addr) else some ⟨g, (A + 1) * 11, none⟩) = some (if c = A + 1 then (⟨g, 0, none⟩ : Addr) else ⟨g, (A + 1) * 11, none⟩) := by split <;> rfl
        have hD : ∀ j u, (iqF (l.drop (A + 1)))[j]? = some u → w6.drew.cell? (Addr.add (if c = A + 1 then (⟨g, 0, none⟩ : Addr) else ⟨g, (A + 1) * 11, none⟩) j) = some u := by
          intro j u hj
          have hjl : j < (iqF (l.drop (A + 1))).length := (List.getElem?_eq_some_iff.1 hj).1
          rw [iqF_len, List.length_drop] at hjl
          rw [if_neg (by omega), plain_add]
          show w6.cell? ⟨g, (A + 1) * 11 + j, none⟩ = some u
          rw [hv.cell _ (by omega), ← hj, ← iqF_dropN, List.getElem?_drop]
        go_wp2_with fail
        refine wp_region_inv (fun v => ⟨#[Value.slice C len cap, undef, Value.slice none 0 0, Value.pointer (some { block := w.heap.size, off := 0 }), v 8, Value.int IntKind.i64 pc, Value.int IntKind.i64 (A : Int), undef, Value.slice C len cap, Value.pointer (some { block := w.heap.size, off := 0 }), Value.tuple #[Value.slice (some { block := g, off := 0 }) l.length c, Value.int IntKind.i64 pc], Value.pointer (some { block := w.heap.size, off := 0 }), Value.agg (ipL p), Value.pointer (some { block := w.heap.size, off := 0 }), Value.int IntKind.i64 y, Value.tuple #[Value.slice (some { block := g, off := 0 }) l.length c, Value.int IntKind.i64 pc], Value.slice (some { block := g, off := 0 }) l.length c, Value.int IntKind.i64 pc, Value.slice (some { block := g, off := 0 }) l.length c, Value.int IntKind.i64 (l.length : Int), Value.bool false, undef, Value.pointer (some { block := w.heap.size, off := 0 }), Value.slice (some { block := g, off := 0 }) l.length c, Value.int IntKind.i64 (l.length : Int), Value.int IntKind.i64 (A : Int), Value.pointer (some { block := w.heap.size, off := 0 }), Value.int IntKind.i64 2, Value.bool false, Value.bool false, undef, undef, undef, undef, undef, undef, undef, undef, undef, Value.bool false, Value.bool false, undef, undef, undef, undef, undef, undef, undef, undef, Value.bool true, Value.bool true, v 0, v 1, v 2, v 3, v 4, v 5, v 6, v 7, undef, undef, undef, undef, undef, undef, undef, undef, undef, undef, undef, undef, undef, undef, undef, undef, undef, undef, undef, undef, undef, undef, undef, undef], []⟩) (fun L1 v u => QK 8 (fun u => Below R w6.drew u) (dtF w6.drew R g A l.length c l) (fun v u => ownV u R 28 11 (v 8) (A + (l.length - (A + 1))) (iqF (l.take A) ++ iqF (l.drop (A + 1)))) L1 v u ∧ (L1 7 = false → u = w6.drew) ∧ (L1 8 = false → v 8 = .slice (some ⟨g, 0, none⟩) l.length c)) (fun i => cond (Nat.beq i 8) (.slice (some ⟨g, 0, none⟩) l.length c) undef) (by kernel_rfl) (by kernel_rfl) rfl ?_ ?_ ?_
        case refine_1 =>
          intro L1 hL1
          refine ⟨QK.start (Below.refl _ _) (fun i x hi => ?_) hL1, fun _ => rfl, fun _ => rfl⟩
          obtain ⟨m, rfl⟩ : ∃ m, i = m + 9 := ⟨i - 9, by omega⟩
          trivial
        case refine_2 =>
          refine Steps.cons rfl (fun L1 v u hJ hL1 hd K1 hK => ?_) ?_
          · have hI := hJ.1.inv
            have e8 := hJ.2.2 (hJ.1.hN (by decide) hL1)
            clear hd
            go_simp
            exact hK (updV (updV v 8 (.slice (some ⟨g, 0, none⟩) l.length c)) 0 _) _ (by rw [updV_eq e8]; exact ⟨hJ.1.next 0 _ (by decide) hL1 hI (fun _ _ h => h) (rfl), fun h => hJ.2.1 (by simpa [updB] using h), fun h => (updV_ne _ _ (by decide)).trans (hJ.2.2 (by simpa [updB] using h))⟩)
          refine Steps.cons rfl (fun L1 v u hJ hL1 hd K1 hK => ?_) ?_
          · have hI := hJ.1.inv
            clear hd
            go_simp
            exact hK (updV v 1 _) _ (by exact ⟨hJ.1.next 1 _ (by decide) hL1 hI (fun _ _ h => h) (rfl), fun h => hJ.2.1 (by simpa [updB] using h), fun h => (updV_ne _ _ (by decide)).trans (hJ.2.2 (by simpa [updB] using h))⟩)
          refine Steps.cons rfl (fun L1 v u hJ hL1 hd K1 hK => ?_) ?_
          · have hI := hJ.1.inv
            have hF := hJ.1.F (hJ.1.hN (by decide) hL1)
            have e0 : v 0 = .slice (some ⟨g, 0, none⟩) l.length c := hF 0 (hd ⟨0, .data⟩ (by simp) rfl)
            have e1 : v 1 = .int .i64 (A : Int) := hF 1 (hd ⟨1, .data⟩ (by simp) rfl)
            clear hF hd
            go_simp
            exact hK (updV (updV (updV v 0 (.slice (some ⟨g, 0, none⟩) l.length c)) 1 (.int .i64 (A : Int))) 2 _) _ (by rw [updV_eq (v := updV v 0 _) (by rw [updV_eq e0]; exact e1), updV_eq e0]; exact ⟨hJ.1.next 2 _ (by decide) hL1 hI (fun _ _ h => h) (rfl), fun h => hJ.2.1 (by simpa [updB] using h), fun h => (updV_ne _ _ (by decide)).trans (hJ.2.2 (by simpa [updB] using h))⟩)
          refine Steps.cons rfl (fun L1 v u hJ hL1 hd K1 hK => ?_) ?_
          · have hI := hJ.1.inv
            have e8 := hJ.2.2 (hJ.1.hN (by decide) hL1)
            clear hd
            go_simp
            exact hK (updV (updV v 8 (.slice (some ⟨g, 0, none⟩) l.length c)) 3 _) _ (by rw [updV_eq e8]; exact ⟨hJ.1.next 3 _ (by decide) hL1 hI (fun _ _ h => h) (rfl), fun h => hJ.2.1 (by simpa [updB] using h), fun h => (updV_ne _ _ (by decide)).trans (hJ.2.2 (by simpa [updB] using h))⟩)
          refine Steps.cons rfl (fun L1 v u hJ hL1 hd K1 hK => ?_) ?_
          · have hI := hJ.1.inv
            clear hd
            go_simp
            exact hK (updV v 4 _) _ (by exact ⟨hJ.1.next 4 _ (by decide) hL1 hI (fun _ _ h => h) (rfl), fun h => hJ.2.1 (by simpa [updB] using h), fun h => (updV_ne _ _ (by decide)).trans (hJ.2.2 (by simpa [updB] using h))⟩)
          refine Steps.cons rfl (fun L1 v u hJ hL1 hd K1 hK => ?_) ?_
          · have hI := hJ.1.inv
            have hF := hJ.1.F (hJ.1.hN (by decide) hL1)
            have e4 : v 4 = .int .i64 (A : Int) := hF 4 (hd ⟨4, .data⟩ (by simp) rfl)
            clear hF hd
            go_simp
            exact hK (updV (updV v 4 (.int .i64 (A : Int))) 5 _) _ (by rw [updV_eq e4]; exact ⟨hJ.1.next 5 _ (by decide) hL1 hI (fun _ _ h => h) (rfl), fun h => hJ.2.1 (by simpa [updB] using h), fun h => (updV_ne _ _ (by decide)).trans (hJ.2.2 (by simpa [updB] using h))⟩)
          refine Steps.cons rfl (fun L1 v u hJ hL1 hd K1 hK => ?_) ?_
          · have hI := hJ.1.inv
            have hF := hJ.1.F (hJ.1.hN (by decide) hL1)
            have e3 : v 3 = .slice (some ⟨g, 0, none⟩) l.length c := hF 3 (hd ⟨3, .data⟩ (by simp) rfl)
            have e5 : v 5 = .int .i64 ((A : Int) + 1) := hF 5 (hd ⟨5, .data⟩ (by simp) rfl)
            clear hF hd
            have hA0 : (0 : Int) ≤ (A : Int) + 1 := by omega
            go_simp
            exact hK (updV (updV (updV v 3 (.slice (some ⟨g, 0, none⟩) l.length c)) 5 (.int .i64 ((A : Int) + 1))) 6 _) _ (by rw [updV_eq (v := updV v 3 _) (by rw [updV_eq e3]; exact e5), updV_eq e3]; exact ⟨hJ.1.next 6 _ (by decide) hL1 hI (fun _ _ h => h) ⟨_, _, rfl, hD⟩, fun h => hJ.2.1 (by simpa [updB] using h), fun h => (updV_ne _ _ (by decide)).trans (hJ.2.2 (by simpa [updB] using h))⟩)
          refine Steps.cons rfl (fun L1 v u hJ hL1 hd K1 hK => ?_) ?_
          · have hF := hJ.1.F (hJ.1.hN (by decide) hL1)
            have e2 : v 2 = .slice (some ⟨g, 0, none⟩) A c := hF 2 (hd ⟨2, .data⟩ (by simp) rfl)
            obtain ⟨ad, c6, e6, hsrc⟩ := hF 6 (hd ⟨6, .data⟩ (by simp) rfl)
            have hu := hJ.2.1 hL1
            clear hF hd
            subst hu
            have hown : ownV w6.drew R 28 11 (.slice (some ⟨g, 0, none⟩) A c) A (iqF (l.take A)) := by
              have := ownV.ahead (w := w6.drew) hv A (by omega)
              rwa [iqF_takeN] at this
            refine opwp_append_ips Try.infIp rfl (.tmp 53) (.tmp 57) rfl R _ A (iqF (l.take A)) e2 hown ad (l.length - (A + 1)) c6 (iqF (l.drop (A + 1))) e6 (by rw [iqF_len, List.length_drop]) (fun y hy => by obtain ⟨z, _, hz⟩ := List.mem_flatMap.1 hy; exact oneIp z y hz) hsrc (by omega) hRl ?_
            intro v7 w7 ho7 hb7
            exact hK (updV v 7 v7) _ ⟨hJ.1.nextN 7 _ (by decide) hL1 hb7 (fun i y h7 h => dtF_any i y h h7) ho7, fun h => by simp [updB] at h, fun h => (updV_ne _ _ (by decide)).trans (hJ.2.2 (by simpa [updB] using h))⟩
          refine Steps.cons rfl (fun L1 v u hJ hL1 hd K1 hK => ?_) ?_
          · have hI := hJ.1.inv
            have hF := hJ.1.F hL1
            have ho7 := hF 7 (hd ⟨7, .data⟩ (by simp) rfl)
            clear hF
            go_simp
            refine hK (updV v 8 (v 7)) _ ⟨QK.last hI (fun j2 hj2 => ?_) (by rw [updV_same]; exact ho7), fun h => hJ.2.1 (by simpa [updB] using h), fun h => by simp [updB] at h⟩
            have hjs : j2 ∈ List.range 8 := by simpa using hj2
            have hall : ∀ j2 ∈ List.range 8, L1 j2 = true := by
              simp only [List.range_succ, List.range_zero, List.nil_append, List.mem_append, List.mem_singleton]
              rintro j2 hj2
              repeat (first | (rcases hj2 with hj2 | rfl; rotate_left; exact hd ⟨_, .phase⟩ (by simp) rfl) | (subst hj2; exact hd ⟨_, .phase⟩ (by simp) rfl))
            exact hall j2 hjs
          exact Steps.nil
        case refine_3 =>
          intro L1 v u hJ hL1
          have ho8 := hJ.1.E (hL1 8 (by decide))
          have hbu := hJ.1.inv
          have hBu := hB.drew.trans (hbu.mono (by omega))
          clear hJ hL1
          have hlen : (l.take A ++ l.drop (A + 1)).length = A + (l.length - (A + 1)) := by rw [List.length_append, List.length_take, List.length_drop]; omega
          have hsz := iqTot_out l A hA
          rw [← iqF_app, ← hlen] at ho8
          generalize v 8 = v8 at *
          obtain ⟨T8, c8, rfl⟩ := ho8.form
          go_wp2
          refine bodyPost_ret (v := .slice T8 (l.take A ++ l.drop (A + 1)).length c8) ?_ rfl ⟨_, _, rfl, ho8.mono (by omega), by omega, hBu⟩
          simp [results, Try.results52, go_sem]
      · simp only [ipL] at hcell
        clear hcell
        go_wp2_with fail
        refine (r_u16 _ C len cap _ hd6).mono ?_
        rintro e w7 ⟨u, rfl, hu0, hu1, hd7, hO7⟩
        replace hv := hv.keptF hO7 (fun b hb e => by cases e; omega)
        replace hB := hB.trans (hO7.below (Nat.le_refl _) hB.size)
        clear hO7
        obtain ⟨x1, k1⟩ := hv.has (A * 11 + 1) (by omega)
        have f1 := hv.frozen (A * 11 + 1)
        have hst := hv.stored (A * 11 + 1) (.int .i64 u)
        rw [iqF_setj l A hA 1 (by omega) _ ⟨(iqA l A).tos, u, (iqA l A).df, (iqA l A).mf, (iqA l A).off, (iqA l A).ttl, (iqA l A).pro, (iqA l A).src, (iqA l A).dst, (iqA l A).opts, (iqA l A).data⟩ rfl] at hst
        have hsz := iqTot_set l A hA ⟨(iqA l A).tos, u, (iqA l A).df, (iqA l A).mf, (iqA l A).off, (iqA l A).ttl, (iqA l A).pro, (iqA l A).src, (iqA l A).dst, (iqA l A).opts, (iqA l A).data⟩
        have hqs := iqSz_le (q := ⟨(iqA l A).tos, u, (iqA l A).df, (iqA l A).mf, (iqA l A).off, (iqA l A).ttl, (iqA l A).pro, (iqA l A).src, (iqA l A).dst, (iqA l A).opts, (iqA l A).data⟩) (by dsimp only; omega) (by dsimp only; omega)
        have hBs := below_set hB ⟨g, A * 11 + 1, none⟩ (.int .i64 u) (by show w.heap.size ≤ g; omega)
        go_wp2
        refine bodyPost_ret (v := .slice (some ⟨g, 0, none⟩) l.length c) ?_ rfl ⟨_, l.set A _, rfl, by rw [List.length_set]; exact hst.mono (by omega), by rw [List.length_set]; omega, hBs⟩
        simp [results, Try.results52, go_sem]
      · have hcell0 := fun j hj => (hv.cell (0 * 11 + j) (by omega)).trans (iqF_at l 0 (by omega) j hj)
        simp only [ipL, Nat.zero_mul, Nat.zero_add] at hcell hcell0
        have hl0i : (0 : Int) < (l.length : Int) := by omega
        have hgl6 := (World.ownsRow.lt hv g rfl).2
        have fz6 := fun j => hv.frozen j
        have kk0 : w6.cell? ⟨g, A * 11, none⟩ = some (.int .i64 (iqA l A).tos) := hcell 0 (by omega)
        have kk1 : w6.cell? ⟨g, A * 11 + 1, none⟩ = some (.int .i64 (iqA l A).id) := hcell 1 (by omega)
        have kk2 : w6.cell? ⟨g, A * 11 + 2, none⟩ = some (.bool (iqA l A).df) := hcell 2 (by omega)
        have kk3 : w6.cell? ⟨g, A * 11 + 3, none⟩ = some (.bool (iqA l A).mf) := hcell 3 (by omega)
        have kk4 : w6.cell? ⟨g, A * 11 + 4, none⟩ = some (.int .i64 (iqA l A).off) := hcell 4 (by omega)
        have kk5 : w6.cell? ⟨g, A * 11 + 5, none⟩ = some (.int .i64 (iqA l A).ttl) := hcell 5 (by omega)
        have kk6 : w6.cell? ⟨g, A * 11 + 6, none⟩ = some (.int .i64 (iqA l A).pro) := hcell 6 (by omega)
        have kk7 : w6.cell? ⟨g, A * 11 + 7, none⟩ = some (.int .i64 (iqA l A).src) := hcell 7 (by omega)
        have kk8 : w6.cell? ⟨g, A * 11 + 8, none⟩ = some (.int .i64 (iqA l A).dst) := hcell 8 (by omega)
        have kk9 : w6.cell? ⟨g, A * 11 + 9, none⟩ = some (.string (iqA l A).opts) := hcell 9 (by omega)
        have kk10 : w6.cell? ⟨g, A * 11 + 10, none⟩ = some (.string (iqA l A).data) := hcell 10 (by omega)
        have m0 : w6.cell? ⟨g, 0, none⟩ = some (.int .i64 (iqA l 0).tos) := hcell0 0 (by omega)
        have m1 : w6.cell? ⟨g, 1, none⟩ = some (.int .i64 (iqA l 0).id) := hcell0 1 (by omega)
        have m2 : w6.cell? ⟨g, 2, none⟩ = some (.bool (iqA l 0).df) := hcell0 2 (by omega)
        have m3 : w6.cell? ⟨g, 3, none⟩ = some (.bool (iqA l 0).mf) := hcell0 3 (by omega)
        have m4 : w6.cell? ⟨g, 4, none⟩ = some (.int .i64 (iqA l 0).off) := hcell0 4 (by omega)
        have m5 : w6.cell? ⟨g, 5, none⟩ = some (.int .i64 (iqA l 0).ttl) := hcell0 5 (by omega)
        have m6 : w6.cell? ⟨g, 6, none⟩ = some (.int .i64 (iqA l 0).pro) := hcell0 6 (by omega)
        have m7 : w6.cell? ⟨g, 7, none⟩ = some (.int .i64 (iqA l 0).src) := hcell0 7 (by omega)
        have m8 : w6.cell? ⟨g, 8, none⟩ = some (.int .i64 (iqA l 0).dst) := hcell0 8 (by omega)
        have m9 : w6.cell? ⟨g, 9, none⟩ = some (.string (iqA l 0).opts) := hcell0 9 (by omega)
        have m10 : w6.cell? ⟨g, 10, none⟩ = some (.string (iqA l 0).data) := hcell0 10 (by omega)
        have k0 : (w6.alloc (.cells #[.int .i64 (iqA l 0).tos, .int .i64 (iqA l 0).id, .bool (iqA l 0).df, .bool (iqA l 0).mf, .int .i64 (iqA l 0).off, .int .i64 (iqA l 0).ttl, .int .i64 (iqA l 0).pro, .int .i64 (iqA l 0).src, .int .i64 (iqA l 0).dst, .string (iqA l 0).opts, .string (iqA l 0).data] 28)).cell? ⟨g, A * 11, none⟩ = some (.int .i64 (iqA l A).tos) := (((Below.refl w6.heap.size w6).alloc (Nat.le_refl _) _).cell (p := ⟨g, A * 11, none⟩) hgl6).trans (hcell 0 (by omega))
        have k1 : (w6.alloc (.cells #[.int .i64 (iqA l 0).tos, .int .i64 (iqA l 0).id, .bool (iqA l 0).df, .bool (iqA l 0).mf, .int .i64 (iqA l 0).off, .int .i64 (iqA l 0).ttl, .int .i64 (iqA l 0).pro, .int .i64 (iqA l 0).src, .int .i64 (iqA l 0).dst, .string (iqA l 0).opts, .string (iqA l 0).data] 28)).cell? ⟨g, A * 11 + 1, none⟩ = some (.int .i64 (iqA l A).id) := (((Below.refl w6.heap.size w6).alloc (Nat.le_refl _) _).cell (p := ⟨g, A * 11 + 1, none⟩) hgl6).trans (hcell 1 (by omega))
        have k2 : (w6.alloc (.cells #[.int .i64 (iqA l 0).tos, .int .i64 (iqA l 0).id, .bool (iqA l 0).df, .bool (iqA l 0).mf, .int .i64 (iqA l 0).off, .int .i64 (iqA l 0).ttl, .int .i64 (iqA l 0).pro, .int .i64 (iqA l 0).src, .int .i64 (iqA l 0).dst, .string (iqA l 0).opts, .string (iqA l 0).data] 28)).cell? ⟨g, A * 11 + 2, none⟩ = some (.bool (iqA l A).df) := (((Below.refl w6.heap.size w6).alloc (Nat.le_refl _) _).cell (p := ⟨g, A * 11 + 2, none⟩) hgl6).trans (hcell 2 (by omega))
        have k3 : (w6.alloc (.cells #[.int .i64 (iqA l 0).tos, .int .i64 (iqA l 0).id, .bool (iqA l 0).df, .bool (iqA l 0).mf, .int .i64 (iqA l 0).off, .int .i64 (iqA l 0).ttl, .int .i64 (iqA l 0).pro, .int .i64 (iqA l 0).src, .int .i64 (iqA l 0).dst, .string (iqA l 0).opts, .string (iqA l 0).data] 28)).cell? ⟨g, A * 11 + 3, none⟩ = some (.bool (iqA l A).mf) := (((Below.refl w6.heap.size w6).alloc (Nat.le_refl _) _).cell (p := ⟨g, A * 11 + 3, none⟩) hgl6).trans (hcell 3 (by omega))
        have k4 : (w6.alloc (.cells #[.int .i64 (iqA l 0).tos, .int .i64 (iqA l 0).id, .bool (iqA l 0).df, .bool (iqA l 0).mf, .int .i64 (iqA l 0).off, .int .i64 (iqA l 0).ttl, .int .i64 (iqA l 0).pro, .int .i64 (iqA l 0).src, .int .i64 (iqA l 0).dst, .string (iqA l 0).opts, .string (iqA l 0).data] 28)).cell? ⟨g, A * 11 + 4, none⟩ = some (.int .i64 (iqA l A).off) := (((Below.refl w6.heap.size w6).alloc (Nat.le_refl _) _).cell (p := ⟨g, A * 11 + 4, none⟩) hgl6).trans (hcell 4 (by omega))
        have k5 : (w6.alloc (.cells #[.int .i64 (iqA l 0).tos, .int .i64 (iqA l 0).id, .bool (iqA l 0).df, .bool (iqA l 0).mf, .int .i64 (iqA l 0).off, .int .i64 (iqA l 0).ttl, .int .i64 (iqA l 0).pro, .int .i64 (iqA l 0).src, .int .i64 (iqA l 0).dst, .string (iqA l 0).opts, .string (iqA l 0).data] 28)).cell? ⟨g, A * 11 + 5, none⟩ = some (.int .i64 (iqA l A).ttl) := (((Below.refl w6.heap.size w6).alloc (Nat.le_refl _) _).cell (p := ⟨g, A * 11 + 5, none⟩) hgl6).trans (hcell 5 (by omega))
        have k6 : (w6.alloc (.cells #[.int .i64 (iqA l 0).tos, .int .i64 (iqA l 0).id, .bool (iqA l 0).df, .bool (iqA l 0).mf, .int .i64 (iqA l 0).off, .int .i64 (iqA l 0).ttl, .int .i64 (iqA l 0).pro, .int .i64 (iqA l 0).src, .int .i64 (iqA l 0).dst, .string (iqA l 0).opts, .string (iqA l 0).data] 28)).cell? ⟨g, A * 11 + 6, none⟩ = some (.int .i64 (iqA l A).pro) := (((Below.refl w6.heap.size w6).alloc (Nat.le_refl _) _).cell (p := ⟨g, A * 11 + 6, none⟩) hgl6).trans (hcell 6 (by omega))
        have k7 : (w6.alloc (.cells #[.int .i64 (iqA l 0).tos, .int .i64 (iqA l 0).id, .bool (iqA l 0).df, .bool (iqA l 0).mf, .int .i64 (iqA l 0).off, .int .i64 (iqA l 0).ttl, .int .i64 (iqA l 0).pro, .int .i64 (iqA l 0).src, .int .i64 (iqA l 0).dst, .string (iqA l 0).opts, .string (iqA l 0).data] 28)).cell? ⟨g, A * 11 + 7, none⟩ = some (.int .i64 (iqA l A).src) := (((Below.refl w6.heap.size w6).alloc (Nat.le_refl _) _).cell (p := ⟨g, A * 11 + 7, none⟩) hgl6).trans (hcell 7 (by omega))
        have k8 : (w6.alloc (.cells #[.int .i64 (iqA l 0).tos, .int .i64 (iqA l 0).id, .bool (iqA l 0).df, .bool (iqA l 0).mf, .int .i64 (iqA l 0).off, .int .i64 (iqA l 0).ttl, .int .i64 (iqA l 0).pro, .int .i64 (iqA l 0).src, .int .i64 (iqA l 0).dst, .string (iqA l 0).opts, .string (iqA l 0).data] 28)).cell? ⟨g, A * 11 + 8, none⟩ = some (.int .i64 (iqA l A).dst) := (((Below.refl w6.heap.size w6).alloc (Nat.le_refl _) _).cell (p := ⟨g, A * 11 + 8, none⟩) hgl6).trans (hcell 8 (by omega))
        have k9 : (w6.alloc (.cells #[.int .i64 (iqA l 0).tos, .int .i64 (iqA l 0).id, .bool (iqA l 0).df, .bool (iqA l 0).mf, .int .i64 (iqA l 0).off, .int .i64 (iqA l 0).ttl, .int .i64 (iqA l 0).pro, .int .i64 (iqA l 0).src, .int .i64 (iqA l 0).dst, .string (iqA l 0).opts, .string (iqA l 0).data] 28)).cell? ⟨g, A * 11 + 9, none⟩ = some (.string (iqA l A).opts) := (((Below.refl w6.heap.size w6).alloc (Nat.le_refl _) _).cell (p := ⟨g, A * 11 + 9, none⟩) hgl6).trans (hcell 9 (by omega))
        have k10 : (w6.alloc (.cells #[.int .i64 (iqA l 0).tos, .int .i64 (iqA l 0).id, .bool (iqA l 0).df, .bool (iqA l 0).mf, .int .i64 (iqA l 0).off, .int .i64 (iqA l 0).ttl, .int .i64 (iqA l 0).pro, .int .i64 (iqA l 0).src, .int .i64 (iqA l 0).dst, .string (iqA l 0).opts, .string (iqA l 0).data] 28)).cell? ⟨g, A * 11 + 10, none⟩ = some (.string (iqA l A).data) := (((Below.refl w6.heap.size w6).alloc (Nat.le_refl _) _).cell (p := ⟨g, A * 11 + 10, none⟩) hgl6).trans (hcell 10 (by omega))
        have fz7 := fun j => (hv.alloc (.cells #[.int .i64 (iqA l 0).tos, .int .i64 (iqA l 0).id, .bool (iqA l 0).df, .bool (iqA l 0).mf, .int .i64 (iqA l 0).off, .int .i64 (iqA l 0).ttl, .int .i64 (iqA l 0).pro, .int .i64 (iqA l 0).src, .int .i64 (iqA l 0).dst, .string (iqA l 0).opts, .string (iqA l 0).data] 28)).frozen j
        have hng : ¬ (w6.heap.size = g) := by omega
        have hng2 : ¬ (g = w6.heap.size) := by omega
        clear hcell hcell0
        go_upto_region 18 with fail
        have hst0 := (((((((((((hv).stored (0 * 11) (.int .i64 (iqA l A).tos)).stored (0 * 11 + 1) (.int .i64 (iqA l A).id)).stored (0 * 11 + 2) (.bool (iqA l A).df)).stored (0 * 11 + 3) (.bool (iqA l A).mf)).stored (0 * 11 + 4) (.int .i64 (iqA l A).off)).stored (0 * 11 + 5) (.int .i64 (iqA l A).ttl)).stored (0 * 11 + 6) (.int .i64 (iqA l A).pro)).stored (0 * 11 + 7) (.int .i64 (iqA l A).src)).stored (0 * 11 + 8) (.int .i64 (iqA l A).dst)).stored (0 * 11 + 9) (.string (iqA l A).opts)).stored (0 * 11 + 10) (.string (iqA l A).data)
        rw [iqF_setq l 0 (by omega) (iqA l A)] at hst0
        simp only [Nat.zero_mul, Nat.zero_add] at hst0
        have hBc := below_set (below_set (below_set (below_set (below_set (below_set (below_set (below_set (below_set (below_set (below_set (hB) ⟨g, 0, none⟩ (.int .i64 (iqA l A).tos) (by show w.heap.size ≤ g; omega)) ⟨g, 1, none⟩ (.int .i64 (iqA l A).id) (by show w.heap.size ≤ g; omega)) ⟨g, 2, none⟩ (.bool (iqA l A).df) (by show w.heap.size ≤ g; omega)) ⟨g, 3, none⟩ (.bool (iqA l A).mf) (by show w.heap.size ≤ g; omega)) ⟨g, 4, none⟩ (.int .i64 (iqA l A).off) (by show w.heap.size ≤ g; omega)) ⟨g, 5, none⟩ (.int .i64 (iqA l A).ttl) (by show w.heap.size ≤ g; omega)) ⟨g, 6, none⟩ (.int .i64 (iqA l A).pro) (by show w.heap.size ≤ g; omega)) ⟨g, 7, none⟩ (.int .i64 (iqA l A).src) (by show w.heap.size ≤ g; omega)) ⟨g, 8, none⟩ (.int .i64 (iqA l A).dst) (by show w.heap.size ≤ g; omega)) ⟨g, 9, none⟩ (.string (iqA l A).opts) (by show w.heap.size ≤ g; omega)) ⟨g, 10, none⟩ (.string (iqA l A).data) (by show w.heap.size ≤ g; omega)
        have hX8 := Bx.new (((((((((((w6.setCell ⟨g, 0, none⟩ (.int .i64 (iqA l A).tos)).setCell ⟨g, 1, none⟩ (.int .i64 (iqA l A).id)).setCell ⟨g, 2, none⟩ (.bool (iqA l A).df)).setCell ⟨g, 3, none⟩ (.bool (iqA l A).mf)).setCell ⟨g, 4, none⟩ (.int .i64 (iqA l A).off)).setCell ⟨g, 5, none⟩ (.int .i64 (iqA l A).ttl)).setCell ⟨g, 6, none⟩ (.int .i64 (iqA l A).pro)).setCell ⟨g, 7, none⟩ (.int .i64 (iqA l A).src)).setCell ⟨g, 8, none⟩ (.int .i64 (iqA l A).dst)).setCell ⟨g, 9, none⟩ (.string (iqA l A).opts)).setCell ⟨g, 10, none⟩ (.string (iqA l A).data)) #[.int .i64 (iqA l 0).tos, .int .i64 (iqA l 0).id, .bool (iqA l 0).df, .bool (iqA l 0).mf, .int .i64 (iqA l 0).off, .int .i64 (iqA l 0).ttl, .int .i64 (iqA l 0).pro, .int .i64 (iqA l 0).src, .int .i64 (iqA l 0).dst, .string (iqA l 0).opts, .string (iqA l 0).data] 28
        have hs8 : (((((((((((w6.setCell ⟨g, 0, none⟩ (.int .i64 (iqA l A).tos)).setCell ⟨g, 1, none⟩ (.int .i64 (iqA l A).id)).setCell ⟨g, 2, none⟩ (.bool (iqA l A).df)).setCell ⟨g, 3, none⟩ (.bool (iqA l A).mf)).setCell ⟨g, 4, none⟩ (.int .i64 (iqA l A).off)).setCell ⟨g, 5, none⟩ (.int .i64 (iqA l A).ttl)).setCell ⟨g, 6, none⟩ (.int .i64 (iqA l A).pro)).setCell ⟨g, 7, none⟩ (.int .i64 (iqA l A).src)).setCell ⟨g, 8, none⟩ (.int .i64 (iqA l A).dst)).setCell ⟨g, 9, none⟩ (.string (iqA l A).opts)).setCell ⟨g, 10, none⟩ (.string (iqA l A).data)).heap.size = w6.heap.size := by simp
        rw [hs8] at hX8
        have hv8 := hst0.alloc (.cells #[.int .i64 (iqA l 0).tos, .int .i64 (iqA l 0).id, .bool (iqA l 0).df, .bool (iqA l 0).mf, .int .i64 (iqA l 0).off, .int .i64 (iqA l 0).ttl, .int .i64 (iqA l 0).pro, .int .i64 (iqA l 0).src, .int .i64 (iqA l 0).dst, .string (iqA l 0).opts, .string (iqA l 0).data] 28)
        have hB8 := hBc.alloc hBc.size (.cells #[.int .i64 (iqA l 0).tos, .int .i64 (iqA l 0).id, .bool (iqA l 0).df, .bool (iqA l 0).mf, .int .i64 (iqA l 0).off, .int .i64 (iqA l 0).ttl, .int .i64 (iqA l 0).pro, .int .i64 (iqA l 0).src, .int .i64 (iqA l 0).dst, .string (iqA l 0).opts, .string (iqA l 0).data] 28)
        clear hst0 hBc hs8 fz6 fz7 kk0 m0 k0 kk1 m1 k1 kk2 m2 k2 kk3 m3 k3 kk4 m4 k4 kk5 m5 k5 kk6 m6 k6 kk7 m7 k7 kk8 m8 k8 kk9 m9 k9 kk10 m10 k10
        generalize (((((((((((w6.setCell ⟨g, 0, none⟩ (.int .i64 (iqA l A).tos)).setCell ⟨g, 1, none⟩ (.int .i64 (iqA l A).id)).setCell ⟨g, 2, none⟩ (.bool (iqA l A).df)).setCell ⟨g, 3, none⟩ (.bool (iqA l A).mf)).setCell ⟨g, 4, none⟩ (.int .i64 (iqA l A).off)).setCell ⟨g, 5, none⟩ (.int .i64 (iqA l A).ttl)).setCell ⟨g, 6, none⟩ (.int .i64 (iqA l A).pro)).setCell ⟨g, 7, none⟩ (.int .i64 (iqA l A).src)).setCell ⟨g, 8, none⟩ (.int .i64 (iqA l A).dst)).setCell ⟨g, 9, none⟩ (.string (iqA l A).opts)).setCell ⟨g, 10, none⟩ (.string (iqA l A).data)).alloc (.cells #[.int .i64 (iqA l 0).tos, .int .i64 (iqA l 0).id, .bool (iqA l 0).df, .bool (iqA l 0).mf, .int .i64 (iqA l 0).off, .int .i64 (iqA l 0).ttl, .int .i64 (iqA l 0).pro, .int .i64 (iqA l 0).src, .int .i64 (iqA l 0).dst, .string (iqA l 0).opts, .string (iqA l 0).data] 28) = W8 at *
        have b0 := hX8.2 0 _ rfl
        have b1 := hX8.2 1 _ rfl
        have b2 := hX8.2 2 _ rfl
        have b3 := hX8.2 3 _ rfl
        have b4 := hX8.2 4 _ rfl
        have b5 := hX8.2 5 _ rfl
        have b6 := hX8.2 6 _ rfl
        have b7 := hX8.2 7 _ rfl
        have b8 := hX8.2 8 _ rfl
        have b9 := hX8.2 9 _ rfl
        have b10 := hX8.2 10 _ rfl
        obtain ⟨x0, hx100⟩ := hv8.has (A * 11) (by omega)
        have hf100 := hv8.frozen (A * 11)
        obtain ⟨x1, hx101⟩ := hv8.has (A * 11 + 1) (by omega)
        have hf101 := hv8.frozen (A * 11 + 1)
        obtain ⟨x2, hx102⟩ := hv8.has (A * 11 + 2) (by omega)
        have hf102 := hv8.frozen (A * 11 + 2)
        obtain ⟨x3, hx103⟩ := hv8.has (A * 11 + 3) (by omega)
        have hf103 := hv8.frozen (A * 11 + 3)
        obtain ⟨x4, hx104⟩ := hv8.has (A * 11 + 4) (by omega)
        have hf104 := hv8.frozen (A * 11 + 4)
        obtain ⟨x5, hx105⟩ := hv8.has (A * 11 + 5) (by omega)
        have hf105 := hv8.frozen (A * 11 + 5)
        obtain ⟨x6, hx106⟩ := hv8.has (A * 11 + 6) (by omega)
        have hf106 := hv8.frozen (A * 11 + 6)
        obtain ⟨x7, hx107⟩ := hv8.has (A * 11 + 7) (by omega)
        have hf107 := hv8.frozen (A * 11 + 7)
        obtain ⟨x8, hx108⟩ := hv8.has (A * 11 + 8) (by omega)
        have hf108 := hv8.frozen (A * 11 + 8)
        obtain ⟨x9, hx109⟩ := hv8.has (A * 11 + 9) (by omega)
        have hf109 := hv8.frozen (A * 11 + 9)
        obtain ⟨x10, hx110⟩ := hv8.has (A * 11 + 10) (by omega)
        have hf110 := hv8.frozen (A * 11 + 10)
        have hst := (((((((((((hv8).stored (A * 11) (.int .i64 (iqA l 0).tos)).stored (A * 11 + 1) (.int .i64 (iqA l 0).id)).stored (A * 11 + 2) (.bool (iqA l 0).df)).stored (A * 11 + 3) (.bool (iqA l 0).mf)).stored (A * 11 + 4) (.int .i64 (iqA l 0).off)).stored (A * 11 + 5) (.int .i64 (iqA l 0).ttl)).stored (A * 11 + 6) (.int .i64 (iqA l 0).pro)).stored (A * 11 + 7) (.int .i64 (iqA l 0).src)).stored (A * 11 + 8) (.int .i64 (iqA l 0).dst)).stored (A * 11 + 9) (.string (iqA l 0).opts)).stored (A * 11 + 10) (.string (iqA l 0).data)
        rw [iqF_setq (l.set 0 (iqA l A)) A (by simpa using hA) (iqA l 0)] at hst
        have hsz1 := iqTot_set l 0 (by omega) (iqA l A)
        have hsz2 := iqTot_set (l.set 0 (iqA l A)) A (by simpa using hA) (iqA l 0)
        obtain ⟨_, hy4, hy5⟩ := hn3 0 (by omega)
        have hq1 := iqSz_le (q := iqA l A) (by omega) (by omega)
        have hq2 := iqSz_le (q := iqA l 0) (by omega) (by omega)
        have hBs := below_set (below_set (below_set (below_set (below_set (below_set (below_set (below_set (below_set (below_set (below_set (hB8) ⟨g, A * 11, none⟩ (.int .i64 (iqA l 0).tos) (by show w.heap.size ≤ g; omega)) ⟨g, A * 11 + 1, none⟩ (.int .i64 (iqA l 0).id) (by show w.heap.size ≤ g; omega)) ⟨g, A * 11 + 2, none⟩ (.bool (iqA l 0).df) (by show w.heap.size ≤ g; omega)) ⟨g, A * 11 + 3, none⟩ (.bool (iqA l 0).mf) (by show w.heap.size ≤ g; omega)) ⟨g, A * 11 + 4, none⟩ (.int .i64 (iqA l 0).off) (by show w.heap.size ≤ g; omega)) ⟨g, A * 11 + 5, none⟩ (.int .i64 (iqA l 0).ttl) (by show w.heap.size ≤ g; omega)) ⟨g, A * 11 + 6, none⟩ (.int .i64 (iqA l 0).pro) (by show w.heap.size ≤ g; omega)) ⟨g, A * 11 + 7, none⟩ (.int .i64 (iqA l 0).src) (by show w.heap.size ≤ g; omega)) ⟨g, A * 11 + 8, none⟩ (.int .i64 (iqA l 0).dst) (by show w.heap.size ≤ g; omega)) ⟨g, A * 11 + 9, none⟩ (.string (iqA l 0).opts) (by show w.heap.size ≤ g; omega)) ⟨g, A * 11 + 10, none⟩ (.string (iqA l 0).data) (by show w.heap.size ≤ g; omega)
        clear hX8 hv8 hB8 hv hB hn3
        go_wp2
        refine bodyPost_ret (v := .slice (some ⟨g, 0, none⟩) l.length c) ?_ rfl ⟨_, (l.set 0 (iqA l A)).set A (iqA l 0), rfl, by rw [List.length_set, List.length_set]; exact hst.mono (by omega), by rw [List.length_set, List.length_set]; omega, hBs⟩
        simp [results, Try.results52, go_sem]
      · have z0 : (z == 0) = false := by simp; omega
        have z1 : (z == 1) = false := by simp; omega
        have z2 : (z == 2) = false := by simp; omega
        have z3 : (z == 3) = false := by simp; omega
        have z4 : (z == 4) = false := by simp; omega
        clear hcell
        go_wp2
        refine bodyPost_ret (v := .slice (some ⟨g, 0, none⟩) l.length c) ?_ rfl ⟨_, l, rfl, hv.mono (by omega), by omega, hB⟩
        simp [results, Try.results52, go_sem]
end Go.Proofs.Ytgfpoohjbgdcpaa
