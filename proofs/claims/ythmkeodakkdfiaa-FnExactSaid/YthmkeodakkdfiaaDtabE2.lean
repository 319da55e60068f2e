/-
  Tables asked exactly, plainly: what is put is found, what is dropped is not; tables held against tables.
-/
import Derived.Test.YthmkeodakkdfiaaDtabExact
import Derived.Test.YthmkeodakkdfiaaTabFExact
import Derived.Test.YthmkeodakkdfiaaTabs1
import Derived.Laws.StructEq
import Derived.Deep.QuietTactic
namespace Go.Proofs.Ythmkeodakkdfiaa
open Go.RowKit Go.PlainAid
theorem exTab_iff (l : List ExV) : exTab l = true ↔ l.length ≤ 32 ∧ (∀ a ∈ l, exOk a = true) ∧ l.Pairwise (fun a b => exLt a b = true) := tb_iff exOrd l ⟨0, 0⟩
theorem exFound_find (l : List ExV) (key : Int) (h : exTab l = true) : exFound l key = ((l.find? (fun a => exFit a key)).map (·.act)).getD 0 := by
  unfold exFound exFilt
  rw [h, if_pos rfl, List.head?_filter]
theorem exput_ok {l : List ExV} {r : ExV} (h : exPutC l r = 0) : exTab l = true ∧ exOk r = true ∧ exPutR l r = putL exLt ⟨0, 0⟩ l r ∧ exTab (putL exLt ⟨0, 0⟩ l r) = true := by
  have h2 := h
  unfold exPutC at h2
  cases ht : exTab l
  · rw [ht] at h2; simp at h2
  · cases hk : exOk r
    · rw [ht, hk] at h2; simp at h2
    · rw [ht, hk] at h2
      refine ⟨rfl, rfl, by unfold exPutR; rw [if_pos h], ?_⟩
      obtain ⟨t1, t2, t3⟩ := (exTab_iff l).1 ht
      obtain ⟨q2, q3⟩ := tb_put (ok := exOk) exOrd ⟨0, 0⟩ l r hk t2 t3
      refine (exTab_iff _).2 ⟨?_, q2, q3⟩
      rw [putL_length]
      cases hth : there exLt (⟨0, 0⟩ : ExV) l r with
      | true => simp; exact t1
      | false =>
        rw [hth] at h2
        simp at h2
        simp; omega
theorem exFit_lt {a r : ExV} {key : Int} (h : exLt a r = true ∨ exLt r a = true) (hk : r.key = key) : exFit a key = false := by
  unfold exLt at h
  unfold exFit
  rw [decide_eq_true_iff, decide_eq_true_iff] at h
  rw [decide_eq_false_iff_not]; omega
theorem exFit_mid {a r : ExV} {key : Int} (h : exLt a r = false ∧ exLt r a = false) (hk : r.key ≠ key) : exFit a key = false := by
  unfold exLt at h
  unfold exFit
  rw [decide_eq_false_iff_not, decide_eq_false_iff_not] at h
  rw [decide_eq_false_iff_not]; omega
theorem find_none {l : List ExV} {p : ExV → Bool} (h : ∀ a ∈ l, p a = false) : l.find? p = none := by
  rw [List.find?_eq_none]; intro a ha; rw [h a ha]; simp
theorem ex_put_same {l : List ExV} {r : ExV} (h : exPutC l r = 0) : exFound (exPutR l r) r.key = r.act := by
  obtain ⟨t, k, e, t2⟩ := exput_ok h
  rw [e, exFound_find _ _ t2, put_parts, List.find?_append, find_none (fun a ha => exFit_lt (.inl (mem_pP ha)) rfl)]
  have hf : exFit r r.key = true := by unfold exFit; simp
  simp [hf]
theorem ex_put_other {l : List ExV} {r : ExV} {o : Int} (h : exPutC l r = 0) (ho : ¬ o = r.key) : exFound (exPutR l r) o = exFound l o := by
  obtain ⟨t, k, e, t2⟩ := exput_ok h
  rw [e, exFound_find _ _ t2, exFound_find _ _ t, put_parts]
  conv => rhs; rw [parts (lt := exLt) ⟨0, 0⟩ l r]
  have hf : exFit r o = false := by unfold exFit; rw [decide_eq_false_iff_not]; omega
  have hm : (pM exLt ⟨0, 0⟩ l r).find? (fun a => exFit a o) = none := find_none (fun a ha => exFit_mid (mem_pM ha) (by omega))
  simp only [List.find?_append, hm, List.singleton_append, List.find?_cons, hf, Option.none_or]
theorem ex_drop_eq {l : List ExV} {r : ExV} (h : exPutC l r = 0) : exDropR (exPutR l r) ⟨r.key, 0⟩ = exDropR l ⟨r.key, 0⟩ ∧ exDropR l ⟨r.key, 0⟩ = pP exLt l r ++ pB exLt ⟨0, 0⟩ l r ∧ exTab (exDropR l ⟨r.key, 0⟩) = true := by
  obtain ⟨t, k, e, t2⟩ := exput_ok h
  obtain ⟨u1, u2, u3⟩ := (exTab_iff l).1 t
  have hne : ∀ a : ExV, ne exLt a ⟨r.key, 0⟩ = ne exLt a r := fun a => rfl
  have hr : ne exLt r r = false := by unfold ne; rw [exOrd.irr]; rfl
  have f1 : ∀ a ∈ pP exLt l r, ne exLt a r = true := fun a ha => by unfold ne; rw [mem_pP ha]; rfl
  have f2 : ∀ a ∈ pB exLt ⟨0, 0⟩ l r, ne exLt a r = true := fun a ha => by unfold ne; rw [mem_pB exOrd u3 ha]; simp
  have f3 : ∀ a ∈ pM exLt ⟨0, 0⟩ l r, ne exLt a r = false := fun a ha => by unfold ne; rw [(mem_pM ha).1, (mem_pM ha).2]; rfl
  have d1 : exDropR l ⟨r.key, 0⟩ = pP exLt l r ++ pB exLt ⟨0, 0⟩ l r := by
    unfold exDropR
    rw [t, if_pos rfl, ← drop_filter exOrd l _ ⟨0, 0⟩ (exSorted t)]
    conv => lhs; rw [parts (lt := exLt) ⟨0, 0⟩ l r]
    rw [List.filter_append, List.filter_append, List.filter_eq_self.2 (fun a ha => by rw [hne]; exact f1 a ha), List.filter_eq_nil_iff.2 (fun a ha => by rw [hne, f3 a ha]; simp), List.filter_eq_self.2 (fun a ha => by rw [hne]; exact f2 a ha), List.nil_append]
  have d2 : exDropR (exPutR l r) ⟨r.key, 0⟩ = pP exLt l r ++ pB exLt ⟨0, 0⟩ l r := by
    unfold exDropR
    rw [e, t2, if_pos rfl, ← drop_filter exOrd _ _ ⟨0, 0⟩ (exSorted t2), put_parts]
    rw [List.filter_append, List.filter_append, List.filter_eq_self.2 (fun a ha => by rw [hne]; exact f1 a ha), List.filter_eq_nil_iff.2 (fun a ha => by simp at ha; rw [ha, hne, hr]; simp), List.filter_eq_self.2 (fun a ha => by rw [hne]; exact f2 a ha), List.nil_append]
  refine ⟨by rw [d1, d2], d1, ?_⟩
  rw [d1]
  have hs : (pP exLt l r ++ pB exLt ⟨0, 0⟩ l r).Sublist l := by have := sub_drop (lt := exLt) ⟨0, 0⟩ l r; rw [drop_parts] at this; exact this
  exact (exTab_iff _).2 ⟨Nat.le_trans hs.length_le u1, fun a ha => u2 a (hs.subset ha), u3.sublist hs⟩
theorem ex_drop_same {l : List ExV} {r : ExV} (h : exPutC l r = 0) : exFound (exDropR l ⟨r.key, 0⟩) r.key = 0 := by
  obtain ⟨_, d1, t3⟩ := ex_drop_eq h
  obtain ⟨t, k, e, t2⟩ := exput_ok h
  obtain ⟨u1, u2, u3⟩ := (exTab_iff l).1 t
  rw [exFound_find _ _ t3, d1, List.find?_append, find_none (fun a ha => exFit_lt (.inl (mem_pP ha)) rfl), find_none (fun a ha => exFit_lt (.inr (mem_pB exOrd u3 ha)) rfl)]; rfl
theorem ex_drop_other {l : List ExV} {r : ExV} {o : Int} (h : exPutC l r = 0) (ho : ¬ o = r.key) : exFound (exDropR l ⟨r.key, 0⟩) o = exFound l o := by
  obtain ⟨_, d1, t3⟩ := ex_drop_eq h
  obtain ⟨t, k, e, t2⟩ := exput_ok h
  rw [exFound_find _ _ t3, exFound_find _ _ t, d1]
  conv => rhs; rw [parts (lt := exLt) ⟨0, 0⟩ l r]
  have hm : (pM exLt ⟨0, 0⟩ l r).find? (fun a => exFit a o) = none := find_none (fun a ha => exFit_mid (mem_pM ha) (by omega))
  simp only [List.find?_append, hm, Option.none_or]
theorem neExact (a b : Int) (w : World) : (binOp .neq 65 (.agg #[.int .i64 a, .int .i64 b]) (.agg #[.int .i64 a, .int .i64 b])).run Try.prog w = .ok (.bool false) w := by
  have u3 := Try.underlying2
  have a3 := Try.isAgg2
  have z3 := Try.sizeOf2
  have hS : Try.prog.underlying 65 = some (.struct (Try.prog.fieldsOf 65)) := by kernel_rfl
  have hp : Try.prog.stoodInHeld 65 = false := by kernel_rfl
  rw [run_neq_struct w, show (10000 : Nat) = 9999 + 1 from rfl, run_equalIn_agg w 9999 65 _ _ hS hp]
  simp only [Program.fieldsOf, Try.underlying65]
  go_simp
set_option maxRecDepth 100000 in
set_option maxHeartbeats 1600000 in
theorem l_sameExacts (T U : Option Addr) (c e : Nat) (l : List ExV) (w : World) (h : IntsAt w T (exF l)) (k : IntsAt w U (exF l)) (hl : l.length ≤ 1099511627776) :
    Calls Try.prog 15 #[.slice T l.length c, .slice U l.length e] w fun e w' => e = .returned (.bool true) ∧ Below w.heap.size w w' := by
  have hnn : ((l.length : Int) != (l.length : Int)) = false := by simp
  go_enter Try.func15, Try.ntmps15
  go_wp2
  go_loopw [5] (fun i wr => ∃ j : Nat, j ≤ l.length ∧ i = .int .i64 (j : Int) ∧ Below w.heap.size w wr) (fun i _ => ((l.length : Int) - intOf i).toNat)
  case atStart => exact ⟨0, by omega, rfl, Below.refl _ _⟩
  case round =>
    obtain ⟨j, hj, rfl, hb⟩ := hrel
    by_cases hlt : j < l.length
    · rcases h.below hb with h | ⟨g, off, rfl, hg, hc⟩
      · have := exF_len l; rw [h] at this; simp at this; omega
      · rcases k.below hb with k | ⟨g2, off2, rfl, hg2, hc2⟩
        · have := exF_len l; rw [k] at this; simp at this; omega
        · have hj1 : (j : Int) < (l.length : Int) := by omega
          have hcs := ex_cells hc j hlt
          have hcs2 := ex_cells hc2 j hlt
          clear hc hc2
          generalize exA l j = b at *
          obtain ⟨x, y⟩ := b
          have hq := neExact x y
          go_wp2_with fail
          go_quiet (fail)
          go_wp2
          go_roundw
          case rel => exact ⟨j + 1, by omega, by go_num, hb.trans ⟨rfl, rfl, rfl, Nat.le_refl _, fun _ _ => rfl⟩⟩
          case measure => simp [intOf]; omega
    · go_wp2
      go_ret
      exact ⟨rfl, hb⟩
end Go.Proofs.Ythmkeodakkdfiaa
