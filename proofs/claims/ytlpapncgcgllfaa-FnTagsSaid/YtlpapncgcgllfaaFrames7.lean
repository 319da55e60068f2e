/-
  The contract of the model's Tagged.
-/
import Derived.Test.YtlpapncgcgllfaaFrames6
namespace Go.Proofs.Ytlpapncgcgllfaa
open Go.RowKit Go.PlainAid
theorem Box.other {W : World} {b : Nat} {vs : List Value} (h : Box W b vs) {b' j : Nat} (hb : b' ≠ b) (u : Value) : Box (W.setCell ⟨b', j, none⟩ u) b vs :=
  ⟨by simpa using h.1, fun i v hi => (World.cell?_setCell_far _ _ _ _ hb).trans (h.2 i v hi)⟩
theorem Box.set {W : World} {b : Nat} {vs : List Value} (h : Box W b vs) (j : Nat) (u : Value) : Box (W.setCell ⟨b, j, none⟩ u) b (vs.set j u) := by
  refine ⟨by simpa using h.1, fun i v hi => ?_⟩
  rw [List.getElem?_set] at hi
  by_cases e : j = i
  · subst e
    rw [if_pos rfl] at hi
    by_cases hl : j < vs.length
    · rw [if_pos hl] at hi
      cases hi
      exact World.cell?_setCell_same _ _ _ (h.2 j vs[j] (by simp [hl]))
    · rw [if_neg hl] at hi; cases hi
  · rw [if_neg e] at hi
    exact (World.cell?_setCell_other _ _ _ _ (fun k => e (congrArg Addr.off k))).trans (h.2 i v hi)
theorem Free.set {W : World} {b : Nat} (h : Free W b) (p : Addr) (u : Value) : Free (W.setCell p u) b := ⟨by simpa using h.1, fun j => by simpa using h.2 j⟩
theorem ownI.shapeC {w : World} {B : Nat} {v : Value} {g : Int} {l : List Int} (h : ownI w B v (g :: l)) : ∃ b cap, v = .slice (some ⟨b, 0, none⟩) (l.length + 1) cap ∧ B ≤ b ∧ b < w.heap.size := by
  rcases h.shape with ⟨_, hk⟩ | ⟨b, cap, e, h1, h2, _⟩
  · cases hk
  · exact ⟨b, cap, e, h1, h2⟩
theorem ownI.litg (w : World) (B : Nat) (k : Int) (n : Nat) (hn : n = w.heap.size) (hB : B ≤ w.heap.size) : ownI (w.alloc (.cells #[.int .i64 k] 2)) B (.slice (some ⟨n, 0, none⟩) 1 1) [k] := by
  subst hn; exact ownI.lit w B k hB
set_option maxRecDepth 100000 in
set_option maxHeartbeats 1600000 in
theorem s_Tagged (d s : Int) (T : Option Addr) (c : Nat) (l : List Int) (t : Int) (x : ByteArray) (g : Int) (w : World) (h : Src w (.slice T l.length c) l) (hl : l.length ≤ 1048576) (hx : x.size ≤ 1099511627776) :
    Calls Try.prog 24 #[.agg #[.int .i64 d, .int .i64 s, .slice T l.length c, .int .i64 t, .string x], .int .i64 g] w fun e w' => GaveT w (taggedF d s l t x g) (okT d s l t x g) e w' := by
  obtain ⟨W, hW⟩ : ∃ W, W = ((w.alloc (.cells #[.int .i64 d, .int .i64 s, .slice T l.length c, .int .i64 t, .string x] 24)).alloc (.cells fr0 24)).alloc (.cells #[.int .i64 d, .int .i64 s, .slice T l.length c, .int .i64 t, .string x] 24) := ⟨_, rfl⟩
  have hsz : W.heap.size = w.heap.size + 3 := by rw [hW]; simp
  have hA : Box W w.heap.size (frv d s T l.length c t x) := by rw [hW]; exact ((Box.new w #[.int .i64 d, .int .i64 s, .slice T l.length c, .int .i64 t, .string x] 24).below ((Below.refl _ _).alloc (Nat.le_refl _) _)).below ((Below.refl _ _).alloc (Nat.le_refl _) _)
  have hR : Box W (w.heap.size + 1) fr0.toList := by
    rw [hW]
    have := (Box.new (w.alloc (.cells #[.int .i64 d, .int .i64 s, .slice T l.length c, .int .i64 t, .string x] 24)) fr0 24).below ((Below.refl _ _).alloc (Nat.le_refl _) (.cells #[.int .i64 d, .int .i64 s, .slice T l.length c, .int .i64 t, .string x] 24))
    simpa using this
  have hF : Free W (w.heap.size + 1) := by
    rw [hW]
    have := (Free.new (w.alloc (.cells #[.int .i64 d, .int .i64 s, .slice T l.length c, .int .i64 t, .string x] 24)) fr0 24).below ((Below.refl _ _).alloc (Nat.le_refl _) (.cells #[.int .i64 d, .int .i64 s, .slice T l.length c, .int .i64 t, .string x] 24))
    simpa using this
  have hO : Box W (w.heap.size + 2) (frv d s T l.length c t x) := by
    rw [hW]
    have := Box.new ((w.alloc (.cells #[.int .i64 d, .int .i64 s, .slice T l.length c, .int .i64 t, .string x] 24)).alloc (.cells fr0 24)) #[.int .i64 d, .int .i64 s, .slice T l.length c, .int .i64 t, .string x] 24
    simpa using this
  have hG : Free W (w.heap.size + 2) := by
    rw [hW]
    have := Free.new ((w.alloc (.cells #[.int .i64 d, .int .i64 s, .slice T l.length c, .int .i64 t, .string x] 24)).alloc (.cells fr0 24)) #[.int .i64 d, .int .i64 s, .slice T l.length c, .int .i64 t, .string x] 24
    simpa using this
  have hB : Below w.heap.size w W := by rw [hW]; exact (((Below.refl _ w).alloc (Nat.le_refl _) _).alloc (by simp) _).alloc (by simp; omega) _
  have hS : Src W (.slice T l.length c) l := by rw [hW]; exact ((h.alloc _).alloc _).alloc _
  have h0 := h
  clear h
  have hz1 : w.heap.size < W.heap.size := by omega
  have hz2 : w.heap.size + 1 < W.heap.size := by omega
  have hz3 : w.heap.size + 2 < W.heap.size := by omega
  have HT : Hid (okT d s l t x g = (frameB d s l t x && frameB d s (g :: l) t x)) := (okT_eq d s l t x g).symm
  have a2 := hA.2 2 _ rfl
  go_enter Try.func24, Try.ntmps24
  go_wp2_with (at_builtin; go_loud (rw [← hW]; refine wpList_append_src rfl _ _ rfl W.heap.size _ _ rfl (ownI.litg W W.heap.size g _ (by omega) (Nat.le_refl _)) _ l rfl (hS.alloc _) (by simp; omega) (by simp) ?_; intro va w1 hoa hba; have hbb : Below W.heap.size W w1 := ((Below.refl _ W).alloc (Nat.le_refl _) _).trans hba; replace hoa : ownI w1 W.heap.size va (g :: l) := hoa; obtain ⟨gg, cap, rfl, hg1, hg2⟩ := hoa.shapeC; replace hA := hA.below hbb; replace hR := hR.below hbb; replace hF := hF.below hbb; replace hO := hO.below hbb; replace hG := hG.below hbb; replace hS := hS.below hbb; replace hB := hB.trans (hbb.mono (by omega)); have hz4 : w.heap.size + 3 ≤ w1.heap.size := (by have := hbb.size; omega); clear hba hbb a2 hW; rw [hsz] at hg1; rw [hsz] at hoa; clear hz1 hz2 hz3 hsz; have hz1 : w.heap.size < w1.heap.size := (by omega); have hz2 : w.heap.size + 1 < w1.heap.size := (by omega); have hz3 : w.heap.size + 2 < w1.heap.size := (by omega); have a0 := hA.2 0 _ rfl; have a1 := hA.2 1 _ rfl; have a2 := hA.2 2 _ rfl; have a3 := hA.2 3 _ rfl; have a4 := hA.2 4 _ rfl; have p0 := hO.2 0 _ rfl; have p1 := hO.2 1 _ rfl; have p2 := hO.2 2 _ rfl; have p3 := hO.2 3 _ rfl; have p4 := hO.2 4 _ rfl; have q2 := hG.2 2))
  obtain ⟨w2, hw2⟩ : ∃ w2, w2 = w1.setCell ⟨w.heap.size + 1 + 1, 2, none⟩ (.slice (some ⟨gg, 0, none⟩) (l.length + 1) cap) := ⟨_, rfl⟩
  rw [← hw2]
  replace hA : Box w2 w.heap.size (frv d s T l.length c t x) := by rw [hw2]; exact hA.other (by omega) _
  replace hR : Box w2 (w.heap.size + 1) fr0.toList := by rw [hw2]; exact hR.other (by omega) _
  replace hF : Free w2 (w.heap.size + 1) := by rw [hw2]; exact hF.set _ _
  replace hO : Box w2 (w.heap.size + 1 + 1) (frv d s (some ⟨gg, 0, none⟩) (l.length + 1) cap t x) := by rw [hw2]; exact hO.set 2 _
  replace hB : Below w.heap.size w w2 := by rw [hw2]; exact hB.setCell (by simp; omega) _
  replace hoa : ownI w2 (w.heap.size + 3) (.slice (some ⟨gg, 0, none⟩) (l.length + 1) cap) (g :: l) := by rw [hw2]; exact hoa.aside (by omega) _
  have hs2 : w2.heap.size = w1.heap.size := by rw [hw2]; simp
  clear a0 a1 a2 a3 a4 p0 p1 p2 p3 p4 q2 hS hG hw2
  refine (s_FrameOk d s T c l t x w2 (h0.below hB).ints.2 (by omega) hx).mono ?_
  rintro e w3 ⟨rfl, hb3⟩
  have hs3 := hb3.size
  replace hA := hA.below hb3
  replace hR := hR.below hb3
  replace hF := hF.below hb3
  replace hO := hO.below hb3
  replace hoa := hoa.far hb3
  replace hB := hB.trans (hb3.mono (by omega))
  clear hb3 hA
  have p0 := hO.2 0 _ rfl
  have p1 := hO.2 1 _ rfl
  have p2 := hO.2 2 _ rfl
  have p3 := hO.2 3 _ rfl
  have p4 := hO.2 4 _ rfl
  have r0 := hR.2 0 _ rfl
  have r1 := hR.2 1 _ rfl
  have r2 := hR.2 2 _ rfl
  have r3 := hR.2 3 _ rfl
  have r4 := hR.2 4 _ rfl
  have q0 := hF.2 0
  have q1 := hF.2 1
  have q2 := hF.2 2
  have q3 := hF.2 3
  have q4 := hF.2 4
  have fin : Hid (∀ wp : World, Below w.heap.size w wp → GaveT w ⟨0, 0, [], 0, ⟨#[]⟩⟩ false (.returned (.tuple #[.agg #[.int .i64 0, .int .i64 0, .slice none 0 0, .int .i64 0, .string ⟨#[]⟩], .bool false])) wp) := fun wp hwp => ⟨_, rfl, ownI.nil _ _, hwp⟩
  by_cases hf : frameB d s l t x = true
  · rw [hf]
    go_wp2_with fail
    refine (s_FrameOk d s (some ⟨gg, 0, none⟩) cap (g :: l) t x w3 hoa.src.ints.2 (by simp; omega) hx).mono ?_
    rintro e w4 ⟨rfl, hb4⟩
    have hs4 := hb4.size
    replace hR := hR.below hb4
    replace hF := hF.below hb4
    replace hO := hO.below hb4
    replace hoa := hoa.far hb4
    replace hB := hB.trans (hb4.mono (by omega))
    have hg3 : gg < w4.heap.size := by omega
    clear hb4 p0 p1 p2 p3 p4 r0 r1 r2 r3 r4 q0 q1 q2 q3 q4
    have p0 := hO.2 0 _ rfl
    have p1 := hO.2 1 _ rfl
    have p2 := hO.2 2 _ rfl
    have p3 := hO.2 3 _ rfl
    have p4 := hO.2 4 _ rfl
    have r0 := hR.2 0 _ rfl
    have r1 := hR.2 1 _ rfl
    have r2 := hR.2 2 _ rfl
    have r3 := hR.2 3 _ rfl
    have r4 := hR.2 4 _ rfl
    have q0 := hF.2 0
    have q1 := hF.2 1
    have q2 := hF.2 2
    have q3 := hF.2 3
    have q4 := hF.2 4
    by_cases hf2 : frameB d s (g :: l) t x = true
    · have HO : Hid (okT d s l t x g = true) := by rw [HT.out, hf, hf2]; rfl
      have HE : Hid (taggedF d s l t x g = ⟨d, s, g :: l, t, x⟩) := taggedF_yes HO.out
      rw [hf2]
      clear HT hf hf2
      go_wp2
      refine bodyPost_ret (v := .tuple #[.agg #[.int .i64 d, .int .i64 s, .slice (some ⟨gg, 0, none⟩) (l.length + 1) cap, .int .i64 t, .string x], .bool true]) ?_ rfl ?_
      · simp [results, Try.results24, go_sem, r0, r1, r2, r3, r4]
      · rw [HE.out, HO.out]
        refine ⟨_, rfl, ?_, ?_⟩
        · show ownI _ w.heap.size _ (g :: l)
          iterate 5 (refine ownI.aside ?_ (by omega) _)
          exact hoa.mono (by omega)
        · go_grown
    · rw [Bool.not_eq_true] at hf2
      have HO : Hid (okT d s l t x g = false) := by rw [HT.out, hf, hf2]; rfl
      have HE : Hid (taggedF d s l t x g = ⟨0, 0, [], 0, ⟨#[]⟩⟩) := taggedF_no HO.out
      rw [hf2]
      clear HT hf hf2
      go_wp2
      refine bodyPost_ret (v := .tuple #[.agg #[.int .i64 0, .int .i64 0, .slice none 0 0, .int .i64 0, .string ⟨#[]⟩], .bool false]) ?_ rfl ?_
      · simp [results, Try.results24, go_sem, r0, r1, r2, r3, r4]
      · rw [HE.out, HO.out]; exact fin.out _ (by go_grown)
  · rw [Bool.not_eq_true] at hf
    rw [hf]
    have HE : Hid (taggedF d s l t x g = ⟨0, 0, [], 0, ⟨#[]⟩⟩) := taggedF_no (by rw [HT.out, hf]; rfl)
    have HO : Hid (okT d s l t x g = false) := by rw [HT.out, hf]; rfl
    clear HT hf
    go_wp2
    refine bodyPost_ret (v := .tuple #[.agg #[.int .i64 0, .int .i64 0, .slice none 0 0, .int .i64 0, .string ⟨#[]⟩], .bool false]) ?_ rfl ?_
    · simp [results, Try.results24, go_sem, r0, r1, r2, r3, r4]
    · rw [HE.out, HO.out]; exact fin.out _ (by go_grown)
end Go.Proofs.Ytlpapncgcgllfaa
