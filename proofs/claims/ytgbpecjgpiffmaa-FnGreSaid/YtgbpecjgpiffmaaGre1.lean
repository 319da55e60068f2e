/-
  The bytes of a GRE, by the program: marks, head, sum.
-/
import Derived.Test.YtgbpecjgpiffmaaUdps1
import Derived.Test.YtgbpecjgpiffmaaTun1
import Derived.Deep.RegionWith
namespace Go.Proofs.Ytgbpecjgpiffmaa
open Go.RowKit Go.PlainAid
structure GrV where
  sum : Bool
  hasKey : Bool
  key : Int
  hasSeq : Bool
  seq : Int
  data : ByteArray
def grL (g : GrV) : Array Value := #[.bool g.sum, .bool g.hasKey, .int .i64 g.key, .bool g.hasSeq, .int .i64 g.seq, .string g.data]
def grT (g : GrV) (sv : Int) : Array Value := #[.bool g.sum, .bool g.hasKey, .int .i64 g.key, .bool g.hasSeq, .int .i64 g.seq, .string g.data, .int .i64 sv]
def grFl (g : GrV) : Int := (if g.sum then 128 else 0) + (if g.hasKey then 32 else 0) + (if g.hasSeq then 16 else 0)
theorem grFl_bd (g : GrV) : 0 ≤ grFl g ∧ grFl g ≤ 255 := by
  unfold grFl; cases g.sum <;> cases g.hasKey <;> cases g.hasSeq <;> decide
def grHd (g : GrV) (sv : Int) : List UInt8 := be 1 (grFl g) ++ be 1 0 ++ be 2 25944 ++ (if g.sum then be 2 sv ++ be 2 0 else []) ++ (if g.hasKey then bytesOf g.key 4 else []) ++ (if g.hasSeq then bytesOf g.seq 4 else [])
theorem kb_len (n : Int) : (bytesOf n 4).length ≤ 4 := by
  unfold bytesOf; split
  · rw [be_length]; decide
  · simp
theorem grHd_len (g : GrV) (sv : Int) : (grHd g sv).length ≤ 16 := by
  have h1 := kb_len g.key
  have h2 := kb_len g.seq
  unfold grHd
  cases g.sum <;> cases g.hasKey <;> cases g.hasSeq <;> simp only [Bool.false_eq_true, if_false, if_true, List.length_append, List.length_nil, be_length] <;> omega
def grN (has : Bool) (n : Int) : Bool := if has then inB n 0 4294967295 else decide (n = 0)
def grOk (g : GrV) : Bool := grN g.hasKey g.key && grN g.hasSeq g.seq
def grText (g : GrV) (sv : Int) : List UInt8 := if grOk g && carB g.data then grHd g sv ++ bl g.data else []
def grSum (g : GrV) : Int := if g.sum then sumOf (grHd g 0 ++ bl g.data) else 0
theorem grSum_bd (g : GrV) : 0 ≤ grSum g ∧ grSum g ≤ 65535 := by
  unfold grSum; split
  · exact sumOf_bd _
  · omega
set_option maxRecDepth 100000 in
set_option maxHeartbeats 1600000 in
theorem i_greMarks (g : GrV) (w : World) : Calls Try.prog 81 #[.agg (grL g)] w fun e w' => e = .returned (.int .i64 (grFl g)) ∧ Below w.heap.size w w' := by
  obtain ⟨a, b, x, c, y, d⟩ := g
  simp only [grL, grFl]
  have o1 : bits .or .i64 0 128 = 128 := by decide
  have o2 : bits .or .i64 128 32 = 160 := by decide
  have o3 : bits .or .i64 0 32 = 32 := by decide
  have o4 : bits .or .i64 160 16 = 176 := by decide
  have o5 : bits .or .i64 128 16 = 144 := by decide
  have o6 : bits .or .i64 32 16 = 48 := by decide
  have o7 : bits .or .i64 0 16 = 16 := by decide
  cases a <;> cases b <;> cases c
  all_goals
    go_enter Try.func81, Try.ntmps81
    go_wp2
    go_ret
    exact ⟨rfl, (Below.refl _ w).alloc (Nat.le_refl _) _⟩
theorem bo_len (n k : Int) : (bytesOf n k).length ≤ 7 := by
  unfold bytesOf okB; split
  · rename_i h
    simp at h
    rw [be_length]; omega
  · simp
theorem grHd_eq (g : GrV) (sv : Int) (h0 : 0 ≤ sv) (h1 : sv ≤ 65535) : grHd g sv = bytesOf (grFl g) 1 ++ bytesOf 0 1 ++ bytesOf 25944 2 ++ (if g.sum then bytesOf sv 2 ++ bytesOf 0 2 else []) ++ (if g.hasKey then bytesOf g.key 4 else []) ++ (if g.hasSeq then bytesOf g.seq 4 else []) := by
  obtain ⟨f0, f1⟩ := grFl_bd g
  have e1 : bytesOf (grFl g) 1 = be 1 (grFl g) := okB_of (by decide) (by decide) f0 (by simp only [Int.reduceToNat, Int.reducePow]; omega)
  have e2 : bytesOf sv 2 = be 2 sv := okB_of (by decide) (by decide) h0 (by simp only [Int.reduceToNat, Int.reducePow]; omega)
  have e3 : bytesOf 0 1 = be 1 0 := by decide
  have e4 : bytesOf 25944 2 = be 2 25944 := by decide
  have e5 : bytesOf 0 2 = be 2 0 := by decide
  rw [e1, e2, e3, e4, e5]; rfl
set_option maxRecDepth 100000 in
set_option maxHeartbeats 6400000 in
theorem i_greHead (g : GrV) (sv : Int) (w : World) (h0 : 0 ≤ sv) (h1 : sv ≤ 65535) (hk : g.key ≤ 9223372036854775807) (hs : g.seq ≤ 9223372036854775807) : Calls Try.prog 68 #[.agg (grT g sv)] w fun e w' => e = .returned (.string (str (grHd g sv))) ∧ Below w.heap.size w w' := by
  have CM : Hid (∀ u : World, Calls Try.prog 81 #[.agg (grL g)] u fun e w' => e = .returned (.int .i64 (grFl g)) ∧ Below u.heap.size u w') := fun u => i_greMarks g u
  obtain ⟨f0, f1⟩ := grFl_bd g
  have BB : Hid (∀ (n k : Int) (u : World), n ≤ 9223372036854775807 → Calls Try.prog 80 #[.int .i64 n, .int .i64 k] u fun e w' => e = .returned (.string (str (bytesOf n k))) ∧ Below u.heap.size u w') := fun n k u hn => i_BytesOf n k u hn
  have HS : Hid (grHd g sv = bytesOf (grFl g) 1 ++ bytesOf 0 1 ++ bytesOf 25944 2 ++ (if g.sum then bytesOf sv 2 ++ bytesOf 0 2 else []) ++ (if g.hasKey then bytesOf g.key 4 else []) ++ (if g.hasSeq then bytesOf g.seq 4 else [])) := grHd_eq g sv h0 h1
  generalize grHd g sv = hd at *
  generalize grFl g = fl at *
  have l1 := bo_len fl 1
  have l2 := bo_len 0 1
  have l3 := bo_len 25944 2
  have l4 := bo_len sv 2
  have l5 := bo_len 0 2
  have l6 := bo_len g.key 4
  have l7 := bo_len g.seq 4
  have hA : Bx (w.alloc (.cells (grT g sv) 59)) w.heap.size [.bool g.sum, .bool g.hasKey, .int .i64 g.key, .bool g.hasSeq, .int .i64 g.seq, .string g.data, .int .i64 sv] := Bx.new w _ _
  have hB : Below w.heap.size w (w.alloc (.cells (grT g sv) 59)) := (Below.refl _ w).alloc (Nat.le_refl _) _
  obtain ⟨a, b, x, c, y, d⟩ := g
  simp only [grL, grT] at *
  cases a <;> cases b <;> cases c
  all_goals
    simp only [Bool.false_eq_true, if_false, if_true, List.append_nil] at HS
    go_enter Try.func68, Try.ntmps68
    go_wp2_with (first | (go_at_call 81; refine (CM.out _).mono ?_; rintro e wq ⟨rfl, hq⟩; replace hB := hB.trans (hq.mono hB.size); replace hA := hA.below hq; clear hq; (try clear a0 a1 a2 a3 a4 a6); have a0 := hA.2 0 _ rfl; have a1 := hA.2 1 _ rfl; have a2 := hA.2 2 _ rfl; have a3 := hA.2 3 _ rfl; have a4 := hA.2 4 _ rfl; have a6 := hA.2 6 _ rfl) | (go_at_call 80; refine (BB.out _ _ _ (by omega)).mono ?_; rintro e wq ⟨rfl, hq⟩; replace hB := hB.trans (hq.mono hB.size); replace hA := hA.below hq; clear hq; (try clear a0 a1 a2 a3 a4 a6); have a0 := hA.2 0 _ rfl; have a1 := hA.2 1 _ rfl; have a2 := hA.2 2 _ rfl; have a3 := hA.2 3 _ rfl; have a4 := hA.2 4 _ rfl; have a6 := hA.2 6 _ rfl))
    go_ret
    exact ⟨ret_strb (by rw [HS.out]; simp only [str_app, List.append_assoc]), hB⟩
end Go.Proofs.Ytgbpecjgpiffmaa
