/-
  The contract of the model's Untagged.
-/
import Derived.Test.YtlpapncgcgllfaaFrames9
namespace Go.Proofs.Ytlpapncgcgllfaa
open Go.RowKit Go.PlainAid
theorem ownI.lit0 (w : World) (B n : Nat) (hn : n = w.heap.size) (hB : B ≤ w.heap.size) : ownI (w.alloc (.cells #[] 2)) B (.slice (some ⟨n, 0, none⟩) 0 0) [] := by
  subst hn; exact World.ownsRow_lit w #[] 0 hB (by decide) rfl
set_option maxRecDepth 100000 in
set_option maxHeartbeats 1600000 in
theorem s_Untagged (d s : Int) (T : Option Addr) (c : Nat) (l : List Int) (t : Int) (x : ByteArray) (w : World) (h : Src w (.slice T l.length c) l) (hlc : l.length ≤ c) (hl : l.length ≤ 1048576) (hx : x.size ≤ 1099511627776) :
    Calls Try.prog 26 #[.agg #[.int .i64 d, .int .i64 s, .slice T l.length c, .int .i64 t, .string x]] w fun e w' => GaveU w (untaggedF d s l t x) (untagG d s l t x) (okU d s l t x) e w' := by
  obtain ⟨W, hW⟩ : ∃ W, W = (w.alloc (.cells #[.int .i64 d, .int .i64 s, .slice T l.length c, .int .i64 t, .string x] 24)).alloc (.cells fr0 24) := ⟨_, rfl⟩
  have hA : Box W w.heap.size (frv d s T l.length c t x) := by rw [hW]; exact (Box.new w #[.int .i64 d, .int .i64 s, .slice T l.length c, .int .i64 t, .string x] 24).below ((Below.refl _ _).alloc (Nat.le_refl _) _)
  have hR : Box W (w.heap.size + 1) fr0.toList := by
    rw [hW]
    have := Box.new (w.alloc (.cells #[.int .i64 d, .int .i64 s, .slice T l.length c, .int .i64 t, .string x] 24)) fr0 24
    simpa using this
  have hF : Free W (w.heap.size + 1) := by
    rw [hW]
    have := Free.new (w.alloc (.cells #[.int .i64 d, .int .i64 s, .slice T l.length c, .int .i64 t, .string x] 24)) fr0 24
    simpa using this
  have hB : Below w.heap.size w W := by rw [hW]; exact ((Below.refl _ w).alloc (Nat.le_refl _) _).alloc (by simp) _
  have hsz : W.heap.size = w.heap.size + 2 := by rw [hW]; simp
  have C0 : Hid (∀ u : World, Src u (.slice T l.length c) l → Calls Try.prog 18 #[.agg #[.int .i64 d, .int .i64 s, .slice T l.length c, .int .i64 t, .string x]] u fun e w' => e = .returned (.bool (frameB d s l t x)) ∧ Below u.heap.size u w') :=
    fun u hu => s_FrameOk d s T c l t x u hu.ints.2 (by omega) hx
  have HK : Hid (okU d s l t x = (frameB d s l t x && decide (l.length ≠ 0))) := rfl
  go_enter Try.func26, Try.ntmps26
  go_wp2_with fail
  rw [← hW]
  refine (C0.out W (h.below hB)).mono ?_
  rintro e w1 ⟨rfl, hb1⟩
  replace hA := hA.below hb1
  replace hR := hR.below hb1
  replace hF := hF.below hb1
  replace hB := hB.trans (hb1.mono (by omega))
  have hs1 := hb1.size
  rw [hsz] at hs1
  clear hb1 hW hsz
  have hz1 : w.heap.size < w1.heap.size := by omega
  have hz2 : w.heap.size + 1 < w1.heap.size := by omega
  have a0 := hA.2 0 _ rfl
  have a1 := hA.2 1 _ rfl
  have a2 := hA.2 2 _ rfl
  have a3 := hA.2 3 _ rfl
  have a4 := hA.2 4 _ rfl
  have r0 := hR.2 0 _ rfl
  have r1 := hR.2 1 _ rfl
  have r2 := hR.2 2 _ rfl
  have r3 := hR.2 3 _ rfl
  have r4 := hR.2 4 _ rfl
  have q0 := hF.2 0
  have q1 := hF.2 1
  have q2 := hF.2 2
  have q3 := hF.2 3
  have q4 := hF.2 4
  have fin : Hid (∀ wp : World, Below w.heap.size w wp → GaveU w ⟨0, 0, [], 0, ⟨#[]⟩⟩ 0 false (.returned (.tuple #[.agg #[.int .i64 0, .int .i64 0, .slice none 0 0, .int .i64 0, .string ⟨#[]⟩], .int .i64 0, .bool false])) wp) := fun wp hwp => ⟨_, rfl, ownI.nil _ _, hwp⟩
  cases hf : frameB d s l t x
  · have HO : Hid (okU d s l t x = false) := by rw [HK.out, hf]; rfl
    have HE : Hid (untaggedF d s l t x = ⟨0, 0, [], 0, ⟨#[]⟩⟩ ∧ untagG d s l t x = 0) := untagged_no HO.out
    clear HK hf C0
    go_wp2
    refine bodyPost_ret (v := .tuple #[.agg #[.int .i64 0, .int .i64 0, .slice none 0 0, .int .i64 0, .string ⟨#[]⟩], .int .i64 0, .bool false]) ?_ rfl ?_
    · simp [results, Try.results26, go_sem, r0, r1, r2, r3, r4]
    · rw [HE.out.1, HE.out.2, HO.out]; exact fin.out _ (by go_grown)
  · by_cases hne : l.length = 0
    · have HO : Hid (okU d s l t x = false) := by rw [HK.out, hf, hne]; rfl
      have HE : Hid (untaggedF d s l t x = ⟨0, 0, [], 0, ⟨#[]⟩⟩ ∧ untagG d s l t x = 0) := untagged_no HO.out
      clear HK hf C0
      go_wp2
      refine bodyPost_ret (v := .tuple #[.agg #[.int .i64 0, .int .i64 0, .slice none 0 0, .int .i64 0, .string ⟨#[]⟩], .int .i64 0, .bool false]) ?_ rfl ?_
      · simp [results, Try.results26, go_sem, r0, r1, r2, r3, r4]
      · rw [HE.out.1, HE.out.2, HO.out]; exact fin.out _ (by go_grown)
    · have HO' : okU d s l t x = true := by rw [HK.out, hf]; simp [hne]
      have HO : Hid (okU d s l t x = true) := HO'
      have HE : Hid (untaggedF d s l t x = ⟨d, s, l.tail, t, x⟩ ∧ untagG d s l t x = ia l 0) := untagged_yes HO'
      clear HK hf C0 fin HO'
      rcases h.ints.2 with hk | ⟨g, off, rfl, hg0, hcw⟩
      · rw [hk] at hne; exact absurd rfl hne
      have hg : g < w1.heap.size := by omega
      have hgn : g ≠ w.heap.size + 1 := by omega
      have hgn' : w.heap.size + 1 ≠ g := by omega
      have hc : ∀ i, i < l.length → w1.cell? ⟨g, off + i, none⟩ = some (.int .i64 (ia l i)) := fun i hi => (hB.cell (p := ⟨g, off + i, none⟩) hg0).trans (hcw i hi)
      have hc0 : w1.cell? ⟨g, off, none⟩ = some (.int .i64 (ia l 0)) := hc 0 (by omega)
      have hlen : ((l.length : Int) == 0) = false := beq_eq_false_iff_ne.2 (by omega)
      have hl1 : (1 : Int) ≤ (l.length : Int) := by omega
      have hl2 : (0 : Int) < (l.length : Int) := by omega
      have hl4 : 0 < l.length := by omega
      have hl5 : l ≠ [] := List.length_pos_iff.1 hl4
      have hl3 : (l.length : Int) ≤ (c : Int) := by omega
      have hlt : l.tail.length ≤ 1048576 := by simp; omega
      obtain ⟨V, HV⟩ : ∃ V, V = (if c = 1 then some (⟨g, off, none⟩ : Addr) else some ⟨g, off + 1, none⟩) := ⟨_, rfl⟩
      have HS : Hid (Src w1 (.slice V (l.length - 1) (c - 1)) l.tail) := by rw [HV]; exact src_tailc hlc hg hc
      have HV' := HV.symm
      clear hc h hne HV hcw
      obtain ⟨U, hU⟩ : ∃ U, U = w1.alloc (.cells #[.int .i64 d, .int .i64 s, .slice (some ⟨g, off, none⟩) l.length c, .int .i64 t, .string x] 24) := ⟨_, rfl⟩
      have hbU : Below w1.heap.size w1 U := by rw [hU]; exact (Below.refl _ _).alloc (Nat.le_refl _) _
      have hsU : U.heap.size = w1.heap.size + 1 := by rw [hU]; simp
      have hO : Box U w1.heap.size (frv d s (some ⟨g, off, none⟩) l.length c t x) := by rw [hU]; exact Box.new w1 #[.int .i64 d, .int .i64 s, .slice (some ⟨g, off, none⟩) l.length c, .int .i64 t, .string x] 24
      have hG : Free U w1.heap.size := by rw [hU]; exact Free.new w1 #[.int .i64 d, .int .i64 s, .slice (some ⟨g, off, none⟩) l.length c, .int .i64 t, .string x] 24
      go_wp2_with (at_builtin; go_loud (rw [← hU]; refine wpList_append_src rfl _ _ rfl U.heap.size _ _ rfl (ownI.lit0 U U.heap.size _ (by omega) (Nat.le_refl _)) _ l.tail rfl ((HS.out.below hbU).alloc _) (by simp; omega) (by simp) ?_; intro va w2 hoa hba; have hbb : Below U.heap.size U w2 := ((Below.refl _ U).alloc (Nat.le_refl _) _).trans hba; replace hoa : ownI w2 U.heap.size va l.tail := hoa; obtain ⟨Tv, cv, rfl⟩ := hoa.form; have HOA : Hid (ownI w2 U.heap.size (.slice Tv l.tail.length cv) l.tail) := hoa; have hbc : Below w1.heap.size w1 w2 := hbU.trans (hbb.mono (by omega)); replace hO := hO.below hbb; replace hG := hG.below hbb; have hs2 : w1.heap.size + 1 ≤ w2.heap.size := (by have := hbb.size; omega); have hz5 : w1.heap.size < w2.heap.size := (by omega); have p2 := hO.2 2 _ rfl; have qq := hG.2 2; clear hoa hba hbb))
      have e1 : l.tail.length = l.length - 1 := by simp
      have hoa := HOA.out
      rw [e1] at hoa
      obtain ⟨w4, hw4⟩ : ∃ w4, w4 = w2.setCell ⟨w1.heap.size, 2, none⟩ (.slice Tv (l.length - 1) cv) := ⟨_, rfl⟩
      rw [← hw4]
      have hs4 : w4.heap.size = w2.heap.size := by rw [hw4]; simp
      have hA4 : Box w4 w.heap.size (frv d s (some ⟨g, off, none⟩) l.length c t x) := by rw [hw4]; exact (hA.below hbc).other (by omega) _
      have hR4 : Box w4 (w.heap.size + 1) fr0.toList := by rw [hw4]; exact (hR.below hbc).other (by omega) _
      have hF4 : Free w4 (w.heap.size + 1) := by rw [hw4]; exact (hF.below hbc).set _ _
      have hO4 : Box w4 w1.heap.size (frv d s Tv (l.length - 1) cv t x) := by rw [hw4]; exact hO.set 2 _
      have hOW : ownI w4 U.heap.size (.slice Tv (l.length - 1) cv) l.tail := by rw [hw4]; exact hoa.low (by omega) _
      have HOX : Hid (ownI w4 U.heap.size (.slice Tv (l.length - 1) cv) l.tail) := hOW
      have hB4 : Below w.heap.size w w4 := by rw [hw4]; exact (hB.trans (hbc.mono (by omega))).setCell (by simp; omega) _
      have hc4 : w4.cell? ⟨g, off, none⟩ = some (.int .i64 (ia l 0)) := by
        rw [hw4, World.cell?_setCell_far _ _ _ _ (by simp; omega)]
        exact (hbc.cell (p := ⟨g, off, none⟩) hg).trans hc0
      clear a0 a1 a2 a3 a4 r0 r1 r2 r3 r4 q0 q1 q2 q3 q4 hA hR hF hO hG p2 qq hw4 HOA hoa hOW hc0 hB hU hbU hbc HS HV' e1
      have a2 := hA4.2 2 _ rfl
      have p0 := hO4.2 0 _ rfl
      have p1 := hO4.2 1 _ rfl
      have p2 := hO4.2 2 _ rfl
      have p3 := hO4.2 3 _ rfl
      have p4 := hO4.2 4 _ rfl
      have r0 := hR4.2 0 _ rfl
      have r1 := hR4.2 1 _ rfl
      have r2 := hR4.2 2 _ rfl
      have r3 := hR4.2 3 _ rfl
      have r4 := hR4.2 4 _ rfl
      have q0 := hF4.2 0
      have q1 := hF4.2 1
      have q2 := hF4.2 2
      have q3 := hF4.2 3
      have q4 := hF4.2 4
      have hz6 : w.heap.size + 1 ≠ w1.heap.size := by omega
      have hz7 : w1.heap.size ≠ w.heap.size + 1 := by omega
      go_region_held3 (fun w' => w'.cell? ⟨w.heap.size, 2, none⟩ = some (.slice (some ⟨g, off, none⟩) l.length c) ∧ w'.cell? ⟨w1.heap.size, 0, none⟩ = some (.int .i64 d) ∧ w'.cell? ⟨w1.heap.size, 1, none⟩ = some (.int .i64 s) ∧ w'.cell? ⟨w1.heap.size, 2, none⟩ = some (.slice Tv (l.length - 1) cv) ∧ w'.cell? ⟨w1.heap.size, 3, none⟩ = some (.int .i64 t) ∧ w'.cell? ⟨w1.heap.size, 4, none⟩ = some (.string x) ∧ w'.cell? ⟨g, off, none⟩ = some (.int .i64 (ia l 0))) (go_keep) (fail)
      go_wp2
      refine bodyPost_ret (v := .tuple #[.agg #[.int .i64 d, .int .i64 s, .slice Tv (l.length - 1) cv, .int .i64 t, .string x], .int .i64 (ia l 0), .bool true]) ?_ rfl ?_
      · simp [results, Try.results26, go_sem, r0, r1, r2, r3, r4]
      · rw [HE.out.1, HE.out.2, HO.out]
        refine ⟨_, rfl, ?_, ?_⟩
        · show ownI _ w.heap.size _ l.tail
          refine ownI.mono (B := U.heap.size) ?_ (by omega)
          iterate 5 (refine ownI.low ?_ (by omega) _)
          exact HOX.out
        · go_grown
end Go.Proofs.Ytlpapncgcgllfaa
