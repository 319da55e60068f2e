/-
  A row of datagrams of one's own: one of them stored anew; its first ones; an append onto these, in place.
-/
import Derived.Test.YtgfpoohjbgdcpaaFrw1
import Derived.Test.YtgfpoohjbgdcpaaRin2
import Derived.Deep.RegionWith
namespace Go.Proofs.Ytgfpoohjbgdcpaa
open Go.RowKit Go.PlainAid
theorem flatV_set {V : Type} {k : Nat} {L : V → List Value} (hL : ∀ a, (L a).length = k) (c : Value) (x : V) (j : Nat) (hj : j < k) : ∀ (l : List V) (i : Nat) (h : i < l.length), L x = (L l[i]).set j c → (flatV L l).set (i * k + j) c = flatV L (l.set i x) := by
  intro l
  induction l with
  | nil => intro i h; simp at h
  | cons a t ih =>
    intro i h hx
    cases i with
    | zero =>
      simp only [List.getElem_cons_zero] at hx
      simp only [flatV, List.flatMap_cons, List.set_cons_zero, Nat.zero_mul, Nat.zero_add]
      rw [List.set_append_left _ _ (by rw [hL]; exact hj), hx]
    | succ i =>
      have := ih i (by simpa using h) (by simpa using hx)
      simp only [flatV, List.flatMap_cons, List.set_cons_succ] at this ⊢
      rw [List.set_append_right _ _ (by rw [hL, Nat.add_mul]; omega), hL]
      have e : (i + 1) * k + j - k = i * k + j := by rw [Nat.add_mul]; omega
      rw [e, this]
theorem iqF_setj (l : List IpV) (i : Nat) (h : i < l.length) (j : Nat) (hj : j < 11) (c : Value) (x : IpV) (hx : (ipL x).toList = ((ipL (iqA l i)).toList).set j c) : (iqF l).set (i * 11 + j) c = iqF (l.set i x) :=
  flatV_set iqL_len c x j hj l i h (by rw [iqA_eq l i h] at hx; exact hx)
theorem iqA_set (l : List IpV) (i : Nat) (h : i < l.length) (x : IpV) : iqA (l.set i x) i = x := by
  rw [iqA_eq _ _ (by simpa using h)]; simp
theorem iqF_setq (l : List IpV) (i : Nat) (h : i < l.length) (q : IpV) : (((((((((((iqF l).set (i * 11) (.int .i64 q.tos)).set (i * 11 + 1) (.int .i64 q.id)).set (i * 11 + 2) (.bool q.df)).set (i * 11 + 3) (.bool q.mf)).set (i * 11 + 4) (.int .i64 q.off)).set (i * 11 + 5) (.int .i64 q.ttl)).set (i * 11 + 6) (.int .i64 q.pro)).set (i * 11 + 7) (.int .i64 q.src)).set (i * 11 + 8) (.int .i64 q.dst)).set (i * 11 + 9) (.string q.opts)).set (i * 11 + 10) (.string q.data) = iqF (l.set i q) := by
  have a := iqA l i
  rw [show i * 11 = i * 11 + 0 from rfl, iqF_setj l i h 0 (by omega) _ ⟨q.tos, (iqA l i).id, (iqA l i).df, (iqA l i).mf, (iqA l i).off, (iqA l i).ttl, (iqA l i).pro, (iqA l i).src, (iqA l i).dst, (iqA l i).opts, (iqA l i).data⟩ rfl]
  rw [iqF_setj _ i (by simpa using h) 1 (by omega) _ ⟨q.tos, q.id, (iqA l i).df, (iqA l i).mf, (iqA l i).off, (iqA l i).ttl, (iqA l i).pro, (iqA l i).src, (iqA l i).dst, (iqA l i).opts, (iqA l i).data⟩ (by rw [iqA_set l i h]; rfl), List.set_set]
  rw [iqF_setj _ i (by simpa using h) 2 (by omega) _ ⟨q.tos, q.id, q.df, (iqA l i).mf, (iqA l i).off, (iqA l i).ttl, (iqA l i).pro, (iqA l i).src, (iqA l i).dst, (iqA l i).opts, (iqA l i).data⟩ (by rw [iqA_set l i h]; rfl), List.set_set]
  rw [iqF_setj _ i (by simpa using h) 3 (by omega) _ ⟨q.tos, q.id, q.df, q.mf, (iqA l i).off, (iqA l i).ttl, (iqA l i).pro, (iqA l i).src, (iqA l i).dst, (iqA l i).opts, (iqA l i).data⟩ (by rw [iqA_set l i h]; rfl), List.set_set]
  rw [iqF_setj _ i (by simpa using h) 4 (by omega) _ ⟨q.tos, q.id, q.df, q.mf, q.off, (iqA l i).ttl, (iqA l i).pro, (iqA l i).src, (iqA l i).dst, (iqA l i).opts, (iqA l i).data⟩ (by rw [iqA_set l i h]; rfl), List.set_set]
  rw [iqF_setj _ i (by simpa using h) 5 (by omega) _ ⟨q.tos, q.id, q.df, q.mf, q.off, q.ttl, (iqA l i).pro, (iqA l i).src, (iqA l i).dst, (iqA l i).opts, (iqA l i).data⟩ (by rw [iqA_set l i h]; rfl), List.set_set]
  rw [iqF_setj _ i (by simpa using h) 6 (by omega) _ ⟨q.tos, q.id, q.df, q.mf, q.off, q.ttl, q.pro, (iqA l i).src, (iqA l i).dst, (iqA l i).opts, (iqA l i).data⟩ (by rw [iqA_set l i h]; rfl), List.set_set]
  rw [iqF_setj _ i (by simpa using h) 7 (by omega) _ ⟨q.tos, q.id, q.df, q.mf, q.off, q.ttl, q.pro, q.src, (iqA l i).dst, (iqA l i).opts, (iqA l i).data⟩ (by rw [iqA_set l i h]; rfl), List.set_set]
  rw [iqF_setj _ i (by simpa using h) 8 (by omega) _ ⟨q.tos, q.id, q.df, q.mf, q.off, q.ttl, q.pro, q.src, q.dst, (iqA l i).opts, (iqA l i).data⟩ (by rw [iqA_set l i h]; rfl), List.set_set]
  rw [iqF_setj _ i (by simpa using h) 9 (by omega) _ ⟨q.tos, q.id, q.df, q.mf, q.off, q.ttl, q.pro, q.src, q.dst, q.opts, (iqA l i).data⟩ (by rw [iqA_set l i h]; rfl), List.set_set]
  rw [iqF_setj _ i (by simpa using h) 10 (by omega) _ ⟨q.tos, q.id, q.df, q.mf, q.off, q.ttl, q.pro, q.src, q.dst, q.opts, q.data⟩ (by rw [iqA_set l i h]; rfl), List.set_set]
theorem ownV.ahead {w : World} {B : Nat} {E : TypeId} {k n c : Nat} {g : Nat} {xs : List Value} (h : ownV w B E k (.slice (some ⟨g, 0, none⟩) n c) n xs) (m : Nat) (hm : m ≤ n) : ownV w B E k (.slice (some ⟨g, 0, none⟩) m c) m (xs.take (m * k)) := by
  have hmk : m * k ≤ n * k := Nat.mul_le_mul_right k hm
  refine ⟨by rw [List.length_take, h.1]; omega, ?_⟩
  rcases h.2 with ⟨e, _⟩ | ⟨g', cap, cur, e, hb, hg, hn, hc, hs, ht⟩
  · simp at e
  · simp only [Value.slice.injEq, Option.some.injEq, Addr.mk.injEq, and_true, true_and] at e
    obtain ⟨rfl, rfl⟩ := e
    refine .inr ⟨_, _, cur, rfl, hb, hg, by omega, hc, hs, ?_⟩
    rw [← ht, List.take_take, Nat.min_eq_left hmk]
theorem iqF_takeN (l : List IpV) (m : Nat) : (iqF l).take (m * 11) = iqF (l.take m) := by
  conv => lhs; rw [← List.take_append_drop m l]
  rw [iqF_app]
  by_cases h : m ≤ l.length
  · rw [List.take_append_of_le_length (by rw [iqF_len, List.length_take]; omega), List.take_of_length_le (by rw [iqF_len, List.length_take]; omega)]
  · rw [List.drop_eq_nil_of_le (by omega), List.take_of_length_le (by rw [List.length_append, iqF_len, iqF_len, List.length_take]; simp; omega)]
    simp [iqF, flatV]
theorem iqF_dropN (l : List IpV) (m : Nat) : (iqF l).drop (m * 11) = iqF (l.drop m) := by
  by_cases h : m ≤ l.length
  · conv => lhs; rw [← List.take_append_drop m l]
    rw [iqF_app, List.drop_append_of_le_length (by rw [iqF_len, List.length_take]; omega), List.drop_of_length_le (by rw [iqF_len, List.length_take]; omega), List.nil_append]
  · rw [List.drop_eq_nil_of_le (by rw [iqF_len]; omega), List.drop_eq_nil_of_le (by omega)]; rfl
theorem iqTot_app (a b : List IpV) : iqTot (a ++ b) = iqTot a + iqTot b := totV_app _ _ _
theorem iqTot_mem (l : List IpV) (i : Nat) (h : i < l.length) : iqTot l = iqTot (l.take i) + iqSz (iqA l i) + iqTot (l.drop (i + 1)) := by
  conv => lhs; rw [← List.take_append_drop (i + 1) l]
  rw [iqTot_app, iqTot_take l i h]
theorem iqTot_set (l : List IpV) (i : Nat) (h : i < l.length) (x : IpV) : iqTot (l.set i x) ≤ iqTot l + iqSz x := by
  rw [iqTot_mem l i h, iqTot_mem (l.set i x) i (by simpa using h), iqA_set l i h, List.take_set_of_le (Nat.le_refl _), List.drop_set_of_lt (by omega)]
  omega
theorem iqTot_out (l : List IpV) (i : Nat) (h : i < l.length) : iqTot (l.take i ++ l.drop (i + 1)) ≤ iqTot l := by
  rw [iqTot_mem l i h, iqTot_app]; omega
theorem step_append_ips {W : World} {ops : Array Oper} {o : Oper} {a : Act} {K : Act → World → Prop} {Q : Exit → Act → World → Prop} {F : Prop} {S E : TypeId} {k b : Nat} {z : Array Value} (hi : InfV S E k b z) (hgd : o.guard = none) (s x : Operand)
    (ho : o.op = .call { callee := .builtin .append, args := #[s, x], argTypes := #[S, S] })
    (B : Nat) (v : Value) (n : Nat) (xs : List Value) (hs : a.eval s = v) (hown : ownV W B E k v n xs) (ad : Addr) (m c : Nat) (ys : List Value) (hx : a.eval x = .slice (some ad) m c) (hy : ys.length = m * k) (hone : ∀ u ∈ ys, u.oneCell' = true) (hsrc : ∀ j u, ys[j]? = some u → W.cell? (ad.add j) = some u)
    (hl : n + m ≤ 1099511627776) (hB : B ≤ W.heap.size)
    (h : ∀ v' w', ownV w' B E k v' (n + m) (xs ++ ys) → Below B W w' → K (a.put o.dst v') w') :
    if Region.wanted o (yielded ops a.tmps) = true then Oper.wp Try.prog o a W K Q else F := by
  have hw : Region.wanted o (yielded ops a.tmps) = true := by simp [Region.wanted, hgd]
  rw [if_pos hw]
  obtain ⟨i0, hi0, hz0, hz1, hz2⟩ := info_parts hi.inf
  have hle := hi.le
  have hmk : (n + m) * b ≤ 140737488355328 := by
    calc (n + m) * b ≤ (n + m) * 128 := Nat.mul_le_mul_left _ (by omega)
      _ ≤ 140737488355328 := by omega
  refine wp_append_own _ s x S ho B E i0 _ k b hi.und hi0 hz0 hz1 hz2 (by simpa [Value.cells] using hi.zk) hi.pos v n xs hs hown ad m c ys hx hy hsrc hone (by unfold maxLen; omega) hmk hB ?_
  intro v' w' h2 h3 _
  exact h v' w' h2 ((Below.refl B W).grown h3 hB fun k hk => (World.ownsRow.lt hown k hk).1)
end Go.Proofs.Ytgfpoohjbgdcpaa
