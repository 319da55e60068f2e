/-
  Rows of texts: compared, marked, held against their marks.
-/
import Derived.Test.YteflhnmoceppgaaDoorMark
import Derived.Maps.AppendAt
namespace Go.Proofs.YteflhnmoceppgaaDoor
open Go.RowKit Go.PlainAid
def stF (l : List ByteArray) : List Value := l.map Value.string
theorem stF_len (l : List ByteArray) : (stF l).length = l.length := by simp [stF]
theorem stF_app (l m : List ByteArray) : stF (l ++ m) = stF l ++ stF m := by simp [stF]
theorem stF_at (l : List ByteArray) (i : Nat) (h : i < l.length) : (stF l)[i]? = some (.string l[i]) := by simp [stF, h]
theorem stF_one (l : List ByteArray) : ∀ u ∈ stF l, u.oneCell' = true := by
  intro u hu
  obtain ⟨s, _, rfl⟩ := List.mem_map.1 hu
  rfl
theorem wpList_append_strs {w : World} {ops : Array Oper} {rest : List Oper} {o : Oper} {a : Act} {Q : Exit → Act → World → Prop} (hgd : o.guard = none) (s x : Operand)
    (ho : o.op = .call { callee := .builtin .append, args := #[s, x], argTypes := #[25, 25] })
    (B : Nat) (v : Value) (n : Nat) (xs : List Value) (hs : a.eval s = v) (hown : ownV w B 9 1 v n xs) (ad : Addr) (m c : Nat) (ys : List Value) (hx : a.eval x = .slice (some ad) m c) (hy : ys.length = m * 1) (hone : ∀ u ∈ ys, u.oneCell' = true) (hsrc : ∀ j u, ys[j]? = some u → w.cell? (ad.add j) = some u)
    (hl : n + m ≤ 1099511627776) (hB : B ≤ w.heap.size)
    (h : ∀ v' w', ownV w' B 9 1 v' (n + m) (xs ++ ys) → Below B w w' → wpList Tryd.prog ops Q rest (a.put o.dst v') w') : wpList Tryd.prog ops Q (o :: rest) a w := by
  have hinfo : (Tryd.prog.info? 9).map (fun i => (i.zero, i.size, i.bytes)) = some (some (.string ByteArray.empty), 1, 16) := by kernel_rfl
  obtain ⟨i0, hi0, hz0, hz1, hz2⟩ := info_parts hinfo
  refine wpList_append_own w hgd s x 25 ho B 9 i0 _ 1 16 Tryd.underlying25 hi0 hz0 hz1 hz2 rfl (by decide) v n xs hs hown ad m c ys hx hy hsrc hone (by unfold maxLen; omega) (by omega) hB ?_
  intro v' w' h2 h3 _
  exact h v' w' h2 ((Below.refl B w).grown h3 hB fun k hk => (World.ownsRow.lt hown k hk).1)
def stMk (n : Nat) : List ByteArray := (List.range n).map fun j => mkT (1 + j)
theorem stMk_len (n : Nat) : (stMk n).length = n := by simp [stMk]
theorem stMk_at (n j : Nat) (h : j < n) : (stF (stMk n))[j]? = some (.string (mkT (1 + j))) := by
  rw [stF_at _ _ (by rw [stMk_len]; exact h)]; simp [stMk]
theorem st_fill (n : Nat) (xs : List Value) (hx : xs.length = n) (j : Nat) (h : j < n) : (stF ((stMk n).take j) ++ xs.drop j).set j (.string (mkT (1 + j))) = stF ((stMk n).take (j + 1)) ++ xs.drop (j + 1) := by
  rw [fill_set _ xs j (by rw [stF_len, List.length_take, stMk_len]; omega) (by omega)]
  congr 1
  have e : (stMk n).take (j + 1) = (stMk n).take j ++ [mkT (1 + j)] := by
    rw [List.take_succ_eq_append_getElem (by rw [stMk_len]; exact h)]; simp [stMk]
  rw [e, stF_app]; rfl
end Go.Proofs.YteflhnmoceppgaaDoor
