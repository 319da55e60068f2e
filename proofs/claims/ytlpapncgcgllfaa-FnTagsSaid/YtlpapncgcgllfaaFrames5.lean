/-
  The contract of withTags: a frame with other tags.
-/
import Derived.Test.YtlpapncgcgllfaaFrames4
import Derived.Test.YtlpapncgcgllfaaInts2
import Derived.Test.YtlpapncgcgllfaaClone
import Derived.Deep.RegionWith
import Derived.Deep.RegionHeld3
namespace Go.Proofs.Ytlpapncgcgllfaa
open Go.RowKit Go.PlainAid
/-- no cell of block b is frozen -/
def Free (W : World) (b : Nat) : Prop := b < W.heap.size ∧ ∀ j, W.frozen? ⟨b, j, none⟩ = false
theorem Free.below {W W' : World} {b : Nat} (h : Free W b) (hb : Below W.heap.size W W') : Free W' b :=
  ⟨Nat.lt_of_lt_of_le h.1 hb.size, fun j => (hb.frozen (p := ⟨b, j, none⟩) h.1).trans (h.2 j)⟩
theorem Free.belowN {W W' : World} {b N : Nat} (h : Free W b) (hN : W.heap.size = N) (hb : Below N W W') : Free W' b := by subst hN; exact h.below hb
theorem Box.belowN {W W' : World} {b N : Nat} {vs : List Value} (h : Box W b vs) (hN : W.heap.size = N) (hb : Below N W W') : Box W' b vs := by subst hN; exact h.below hb
theorem Free.drew {W : World} {b : Nat} (h : Free W b) : Free W.drew b := h
theorem Free.new (W : World) (vs : Array Value) (t : TypeId) : Free (W.alloc (.cells vs t)) W.heap.size :=
  ⟨by simp, fun j => by rw [World.frozen?_alloc_mark]; simp⟩
/-- an empty frame -/
abbrev fr0 : Array Value := #[.int .i64 0, .int .i64 0, .slice none 0 0, .int .i64 0, .string ⟨#[]⟩]

set_option maxRecDepth 100000 in
set_option maxHeartbeats 1600000 in
theorem i_withTags (d s : Int) (T : Option Addr) (n c : Nat) (t : Int) (x : ByteArray) (v1 v2 : Value) (k1 k2 : List Int) (w : World) (h1 : Src w v1 k1) (h2 : Src w v2 k2) (hk1 : k1.length ≤ 1048576) (hk2 : k2.length ≤ 1048576) (hx : x.size ≤ 1099511627776) :
    Calls Try.prog 51 #[.agg #[.int .i64 d, .int .i64 s, .slice T n c, .int .i64 t, .string x], v1, v2] w fun e w' => ∃ v : Value, e = .returned (.agg #[.int .i64 d, .int .i64 s, v, .int .i64 t, .string x]) ∧ ownI w' w.heap.size v (k1 ++ k2) ∧ Below w.heap.size w w' := by
  have hA := Box.new w #[.int .i64 d, .int .i64 s, .slice T n c, .int .i64 t, .string x] 24
  have hB : Below w.heap.size w (w.alloc (.cells #[.int .i64 d, .int .i64 s, .slice T n c, .int .i64 t, .string x] 24)) := (Below.refl _ w).alloc (Nat.le_refl _) _
  replace h1 := h1.alloc (.cells #[.int .i64 d, .int .i64 s, .slice T n c, .int .i64 t, .string x] 24)
  replace h2 := h2.alloc (.cells #[.int .i64 d, .int .i64 s, .slice T n c, .int .i64 t, .string x] 24)
  obtain ⟨W1, hW1⟩ : ∃ W1, W1 = w.alloc (.cells #[.int .i64 d, .int .i64 s, .slice T n c, .int .i64 t, .string x] 24) := ⟨_, rfl⟩
  have hs1 : W1.heap.size = w.heap.size + 1 := by rw [hW1]; simp
  rw [← hW1] at hA hB h1 h2
  have hR := Box.new W1 fr0 24
  have hF := Free.new W1 fr0 24
  have hb2 : Below W1.heap.size W1 (W1.alloc (.cells fr0 24)) := (Below.refl _ _).alloc (Nat.le_refl _) _
  replace hA := hA.below hb2
  replace h1 := h1.below hb2
  replace h2 := h2.below hb2
  replace hB := hB.trans (hb2.mono hB.size)
  rw [hs1] at hR hF
  clear hb2
  have hW : W1.alloc (.cells fr0 24) = (w.alloc (.cells #[.int .i64 d, .int .i64 s, .slice T n c, .int .i64 t, .string x] 24)).alloc (.cells fr0 24) := by rw [hW1]
  rw [hW] at hA h1 h2 hB hR hF
  have hsz : ((w.alloc (.cells #[.int .i64 d, .int .i64 s, .slice T n c, .int .i64 t, .string x] 24)).alloc (.cells fr0 24)).heap.size = w.heap.size + 2 := by simp
  clear hW hW1 hs1
  go_enter Try.func51, Try.ntmps51
  go_wp2_with (first | (at_builtin; refine wpList_append_src rfl (.tmp 8) (.tmp 9) rfl (w.heap.size + 2) _ _ rfl (ownI.nil _ _) _ k1 rfl h1 (by simp; omega) (by simp) ?_; intro va w1 hoa hba; have hsa := hba.size; have h2' := h2.belowN hsz hba; have hla : ([] ++ k1).length ≤ 1048576 := (by simpa using hk1)) | (at_builtin; refine wpList_append_src rfl (.tmp 11) (.tmp 12) rfl (w.heap.size + 2) _ _ rfl hoa _ k2 rfl h2' (by omega) (by simp at hsa; omega) ?_; intro vb w2 hob hbb))
  have hbc := hba.trans hbb
  replace hA := hA.belowN hsz hbc
  replace hR := hR.belowN hsz hbc
  replace hF := hF.belowN hsz hbc
  replace hB := hB.trans (hbc.mono (by omega))
  have hsc := hbc.size
  rw [hsz] at hsc
  replace hob : ownI w2 (w.heap.size + 2) vb (k1 ++ k2) := by simpa using hob
  clear hba hbb hbc hsa h1 h2 h2' hoa hla hsz
  have a0 := hA.2 0 _ rfl
  have a1 := hA.2 1 _ rfl
  have a2 := hA.2 2 _ rfl
  have a3 := hA.2 3 _ rfl
  have a4 := hA.2 4 _ rfl
  have hsh := hob.shape
  rcases hsh with ⟨rfl, hk⟩ | ⟨g, cap, rfl, hg⟩
  · go_region_held3 (fun w' => w'.cell? ⟨w.heap.size, 0, none⟩ = some (.int .i64 d) ∧ w'.cell? ⟨w.heap.size, 1, none⟩ = some (.int .i64 s) ∧ w'.cell? ⟨w.heap.size, 3, none⟩ = some (.int .i64 t) ∧ w'.cell? ⟨w.heap.size, 4, none⟩ = some (.string x)) (go_keep)
      (first | (go_at_call 53; refine (c_Clone _ _ hx).mono ?_; rintro e w3 ⟨rfl, hb3⟩; have hA3 := hA.drew.below hb3; have hR3 := hR.drew.below hb3; have hF3 := hF.drew.below hb3; have z0 := hA3.2 0 _ rfl; have z1 := hA3.2 1 _ rfl; have z3 := hA3.2 3 _ rfl; have z4 := hA3.2 4 _ rfl; have r0 := hR3.2 0 _ rfl; have r1 := hR3.2 1 _ rfl; have r2 := hR3.2 2 _ rfl; have r3 := hR3.2 3 _ rfl; have r4 := hR3.2 4 _ rfl; have q0 := hF3.2 0; have q1 := hF3.2 1; have q2 := hF3.2 2; have q3 := hF3.2 3; have q4 := hF3.2 4))
    go_wp2
    refine bodyPost_ret (v := .agg #[.int .i64 d, .int .i64 s, .slice none 0 0, .int .i64 t, .string x]) ?_ rfl ⟨_, rfl, ?_, ?_⟩
    · simp [results, Try.results51, go_sem, r0, r1, r2, r3, r4]
    · rw [hk]; exact ownI.nil _ _
    · replace hB := hB.trans (((Below.refl w2.heap.size w2).drew.trans hb3).mono (by omega))
      go_grown
  · have hO3 : ∀ w3, Below w2.drew.heap.size w2.drew w3 → ownI w3 w.heap.size (.slice (some ⟨g, 0, none⟩) (k1 ++ k2).length cap) (k1 ++ k2) := fun w3 hb3 => (hob.drew.far hb3).mono (by omega)
    have HO3 : Hid (∀ w3, Below w2.drew.heap.size w2.drew w3 → ownI w3 w.heap.size (.slice (some ⟨g, 0, none⟩) (k1 ++ k2).length cap) (k1 ++ k2)) := hO3
    have hg2 : w.heap.size + 2 ≤ g := hg.1
    clear hO3 hob hg
    go_region_held3 (fun w' => w'.cell? ⟨w.heap.size, 0, none⟩ = some (.int .i64 d) ∧ w'.cell? ⟨w.heap.size, 1, none⟩ = some (.int .i64 s) ∧ w'.cell? ⟨w.heap.size, 3, none⟩ = some (.int .i64 t) ∧ w'.cell? ⟨w.heap.size, 4, none⟩ = some (.string x)) (go_keep)
      (first | (go_at_call 53; refine (c_Clone _ _ hx).mono ?_; rintro e w3 ⟨rfl, hb3⟩; have hA3 := hA.drew.below hb3; have hR3 := hR.drew.below hb3; have hF3 := hF.drew.below hb3; have z0 := hA3.2 0 _ rfl; have z1 := hA3.2 1 _ rfl; have z3 := hA3.2 3 _ rfl; have z4 := hA3.2 4 _ rfl; have r0 := hR3.2 0 _ rfl; have r1 := hR3.2 1 _ rfl; have r2 := hR3.2 2 _ rfl; have r3 := hR3.2 3 _ rfl; have r4 := hR3.2 4 _ rfl; have q0 := hF3.2 0; have q1 := hF3.2 1; have q2 := hF3.2 2; have q3 := hF3.2 3; have q4 := hF3.2 4))
    go_wp2
    refine bodyPost_ret (v := .agg #[.int .i64 d, .int .i64 s, .slice (some ⟨g, 0, none⟩) (k1 ++ k2).length cap, .int .i64 t, .string x]) ?_ rfl ⟨_, rfl, ?_, ?_⟩
    · simp [results, Try.results51, go_sem, r0, r1, r2, r3, r4]
    · iterate 5 (refine ownI.aside ?_ (by omega) _)
      exact HO3.out _ hb3
    · replace hB := hB.trans (((Below.refl w2.heap.size w2).drew.trans hb3).mono (by omega))
      go_grown
end Go.Proofs.Ytlpapncgcgllfaa
