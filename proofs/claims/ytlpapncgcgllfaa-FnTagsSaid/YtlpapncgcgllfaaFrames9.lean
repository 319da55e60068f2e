/-
  Contracts of Untagged, of the program and of the model.
-/
import Derived.Test.YtlpapncgcgllfaaFrames8
namespace Go.Proofs.Ytlpapncgcgllfaa
open Go.RowKit Go.PlainAid
/-- whether a tag may be taken off -/
def okU (d s : Int) (l : List Int) (t : Int) (x : ByteArray) : Bool := frameB d s l t x && decide (l.length ≠ 0)
def untaggedF (d s : Int) (l : List Int) (t : Int) (x : ByteArray) : Fr := if okU d s l t x then ⟨d, s, l.tail, t, x⟩ else ⟨0, 0, [], 0, ⟨#[]⟩⟩
def untagG (d s : Int) (l : List Int) (t : Int) (x : ByteArray) : Int := if okU d s l t x then ia l 0 else 0
theorem untagged_yes {d s : Int} {l : List Int} {t : Int} {x : ByteArray} (h : okU d s l t x = true) : untaggedF d s l t x = ⟨d, s, l.tail, t, x⟩ ∧ untagG d s l t x = ia l 0 := by unfold untaggedF untagG; rw [if_pos h, if_pos h]; exact ⟨rfl, rfl⟩
theorem untagged_no {d s : Int} {l : List Int} {t : Int} {x : ByteArray} (h : okU d s l t x = false) : untaggedF d s l t x = ⟨0, 0, [], 0, ⟨#[]⟩⟩ ∧ untagG d s l t x = 0 := by unfold untaggedF untagG; rw [h]; exact ⟨rfl, rfl⟩
/-- a frame, a tag, and whether -/
def GaveU (w : World) (r : Fr) (g : Int) (ok : Bool) (e : Ending) (w' : World) : Prop :=
  ∃ v : Value, e = .returned (.tuple #[.agg #[.int .i64 r.d, .int .i64 r.s, v, .int .i64 r.t, .string r.x], .int .i64 g, .bool ok]) ∧ ownI w' w.heap.size v r.l ∧ Below w.heap.size w w'
theorem src_tail {w : World} {g off n c : Nat} {l : List Int} (hn : n = l.length - 1) (hg : g < w.heap.size) (h : ∀ i, i < l.length → w.cell? ⟨g, off + i, none⟩ = some (.int .i64 (ia l i))) : Src w (.slice (some ⟨g, off + 1, none⟩) n c) l.tail := by
  have hn' : n = l.tail.length := by simp [hn]
  subst hn'
  have e : ∀ i, (⟨g, off + 1, none⟩ : Addr).add i = ⟨g, off + (i + 1), none⟩ := fun i => by
    have : (⟨g, off + 1, none⟩ : Addr).add i = ⟨g, off + 1 + i, none⟩ := by unfold Addr.add; split <;> simp_all
    rw [this, Nat.add_assoc, Nat.add_comm 1 i]
  refine .inr ⟨_, _, rfl, .inr hg, fun i hi => ?_⟩
  have hi' : i + 1 < l.length := by simp at hi; omega
  rw [e, h (i + 1) hi', ia_eq l _ hi', ia_eq l.tail _ hi]; simp

theorem ownI.low {w : World} {B : Nat} {v : Value} {l : List Int} (h : ownI w B v l) {b j : Nat} (hb : b < B) (u : Value) : ownI (w.setCell ⟨b, j, none⟩ u) B v l := by
  refine ownsRow_setCell_other h ?_ u
  rcases h.shape with ⟨rfl, _⟩ | ⟨g, cap, rfl, hB, _⟩
  · simp [Value.ownBlock]
  · simp [Value.ownBlock]; omega
theorem src_tailc {w : World} {g off c : Nat} {l : List Int} (hc : l.length ≤ c) (hg : g < w.heap.size) (h : ∀ i, i < l.length → w.cell? ⟨g, off + i, none⟩ = some (.int .i64 (ia l i))) : Src w (.slice (if c = 1 then some ⟨g, off, none⟩ else some ⟨g, off + 1, none⟩) (l.length - 1) (c - 1)) l.tail := by
  by_cases e : c = 1
  · have e1 : l.length - 1 = 0 := by omega
    have e2 : l.tail = [] := List.length_eq_zero_iff.1 (by simp; omega)
    rw [if_pos e, e1, e2]
    exact .inr ⟨_, _, rfl, .inl rfl, fun i hi => absurd hi (by simp)⟩
  · rw [if_neg e]; exact src_tail rfl hg h

set_option maxRecDepth 100000 in
set_option maxHeartbeats 1600000 in
theorem i_Untagged (d s : Int) (T : Option Addr) (c : Nat) (l : List Int) (t : Int) (x : ByteArray) (w : World) (h : Src w (.slice T l.length c) l) (hlc : l.length ≤ c) (hl : l.length ≤ 1048576) (hx : x.size ≤ 1099511627776) :
    Calls Try.prog 25 #[.agg #[.int .i64 d, .int .i64 s, .slice T l.length c, .int .i64 t, .string x]] w fun e w' => GaveU w (untaggedF d s l t x) (untagG d s l t x) (okU d s l t x) e w' := by
  obtain ⟨W, hW⟩ : ∃ W, W = (w.alloc (.cells #[.int .i64 d, .int .i64 s, .slice T l.length c, .int .i64 t, .string x] 24)).alloc (.cells fr0 24) := ⟨_, rfl⟩
  have hA : Box W w.heap.size (frv d s T l.length c t x) := by rw [hW]; exact (Box.new w #[.int .i64 d, .int .i64 s, .slice T l.length c, .int .i64 t, .string x] 24).below ((Below.refl _ _).alloc (Nat.le_refl _) _)
  have hR : Box W (w.heap.size + 1) fr0.toList := by
    rw [hW]
    have := Box.new (w.alloc (.cells #[.int .i64 d, .int .i64 s, .slice T l.length c, .int .i64 t, .string x] 24)) fr0 24
    simpa using this
  have hF : Free W (w.heap.size + 1) := by
    rw [hW]
    have := Free.new (w.alloc (.cells #[.int .i64 d, .int .i64 s, .slice T l.length c, .int .i64 t, .string x] 24)) fr0 24
    simpa using this
  have hB : Below w.heap.size w W := by rw [hW]; exact ((Below.refl _ w).alloc (Nat.le_refl _) _).alloc (by simp) _
  have hsz : W.heap.size = w.heap.size + 2 := by rw [hW]; simp
  have C0 : Hid (∀ u : World, Src u (.slice T l.length c) l → Calls Try.prog 19 #[.agg #[.int .i64 d, .int .i64 s, .slice T l.length c, .int .i64 t, .string x]] u fun e w' => e = .returned (.bool (frameB d s l t x)) ∧ Below u.heap.size u w') :=
    fun u hu => i_FrameOk d s T c l t x u hu.ints.2 (by omega) hx
  have HK : Hid (okU d s l t x = (frameB d s l t x && decide (l.length ≠ 0))) := rfl
  go_enter Try.func25, Try.ntmps25
  go_wp2_with fail
  rw [← hW]
  refine (C0.out W (h.below hB)).mono ?_
  rintro e w1 ⟨rfl, hb1⟩
  replace hA := hA.below hb1
  replace hR := hR.below hb1
  replace hF := hF.below hb1
  replace hB := hB.trans (hb1.mono (by omega))
  have hs1 := hb1.size
  rw [hsz] at hs1
  clear hb1 hW hsz
  have hz1 : w.heap.size < w1.heap.size := by omega
  have hz2 : w.heap.size + 1 < w1.heap.size := by omega
  have a0 := hA.2 0 _ rfl
  have a1 := hA.2 1 _ rfl
  have a2 := hA.2 2 _ rfl
  have a3 := hA.2 3 _ rfl
  have a4 := hA.2 4 _ rfl
  have r0 := hR.2 0 _ rfl
  have r1 := hR.2 1 _ rfl
  have r2 := hR.2 2 _ rfl
  have r3 := hR.2 3 _ rfl
  have r4 := hR.2 4 _ rfl
  have q0 := hF.2 0
  have q1 := hF.2 1
  have q2 := hF.2 2
  have q3 := hF.2 3
  have q4 := hF.2 4
  have fin : Hid (∀ wp : World, Below w.heap.size w wp → GaveU w ⟨0, 0, [], 0, ⟨#[]⟩⟩ 0 false (.returned (.tuple #[.agg #[.int .i64 0, .int .i64 0, .slice none 0 0, .int .i64 0, .string ⟨#[]⟩], .int .i64 0, .bool false])) wp) := fun wp hwp => ⟨_, rfl, ownI.nil _ _, hwp⟩
  cases hf : frameB d s l t x
  · have HO : Hid (okU d s l t x = false) := by rw [HK.out, hf]; rfl
    have HE : Hid (untaggedF d s l t x = ⟨0, 0, [], 0, ⟨#[]⟩⟩ ∧ untagG d s l t x = 0) := untagged_no HO.out
    clear HK hf C0
    go_wp2
    refine bodyPost_ret (v := .tuple #[.agg #[.int .i64 0, .int .i64 0, .slice none 0 0, .int .i64 0, .string ⟨#[]⟩], .int .i64 0, .bool false]) ?_ rfl ?_
    · simp [results, Try.results25, go_sem, r0, r1, r2, r3, r4]
    · rw [HE.out.1, HE.out.2, HO.out]; exact fin.out _ (by go_grown)
  · by_cases hne : l.length = 0
    · have HO : Hid (okU d s l t x = false) := by rw [HK.out, hf, hne]; rfl
      have HE : Hid (untaggedF d s l t x = ⟨0, 0, [], 0, ⟨#[]⟩⟩ ∧ untagG d s l t x = 0) := untagged_no HO.out
      clear HK hf C0
      go_wp2
      refine bodyPost_ret (v := .tuple #[.agg #[.int .i64 0, .int .i64 0, .slice none 0 0, .int .i64 0, .string ⟨#[]⟩], .int .i64 0, .bool false]) ?_ rfl ?_
      · simp [results, Try.results25, go_sem, r0, r1, r2, r3, r4]
      · rw [HE.out.1, HE.out.2, HO.out]; exact fin.out _ (by go_grown)
    · have HO' : okU d s l t x = true := by rw [HK.out, hf]; simp [hne]
      have HO : Hid (okU d s l t x = true) := HO'
      have HE : Hid (untaggedF d s l t x = ⟨d, s, l.tail, t, x⟩ ∧ untagG d s l t x = ia l 0) := untagged_yes HO'
      clear HK hf C0 fin HO'
      rcases h.ints.2 with hk | ⟨g, off, rfl, hg0, hcw⟩
      · rw [hk] at hne; exact absurd rfl hne
      have hg : g < w1.heap.size := by omega
      have hgn : g ≠ w.heap.size + 1 := by omega
      have hgn' : w.heap.size + 1 ≠ g := by omega
      have hc : ∀ i, i < l.length → w1.cell? ⟨g, off + i, none⟩ = some (.int .i64 (ia l i)) := fun i hi => (hB.cell (p := ⟨g, off + i, none⟩) hg0).trans (hcw i hi)
      have hc0 : w1.cell? ⟨g, off, none⟩ = some (.int .i64 (ia l 0)) := hc 0 (by omega)
      have hlen : ((l.length : Int) == 0) = false := beq_eq_false_iff_ne.2 (by omega)
      have hl1 : (1 : Int) ≤ (l.length : Int) := by omega
      have hl2 : (0 : Int) < (l.length : Int) := by omega
      have hl4 : 0 < l.length := by omega
      have hl5 : l ≠ [] := List.length_pos_iff.1 hl4
      have hl3 : (l.length : Int) ≤ (c : Int) := by omega
      have hlt : l.tail.length ≤ 1048576 := by simp; omega
      obtain ⟨V, HV⟩ : ∃ V, V = (if c = 1 then some (⟨g, off, none⟩ : Addr) else some ⟨g, off + 1, none⟩) := ⟨_, rfl⟩
      have HS : Hid (Src w1 (.slice V (l.length - 1) (c - 1)) l.tail) := by rw [HV]; exact src_tailc hlc hg hc
      have HV' := HV.symm
      clear hc h hne HV hcw
      go_wp2_with fail
      go_region_held3 (fun w' => w'.cell? ⟨w.heap.size, 0, none⟩ = some (.int .i64 d) ∧ w'.cell? ⟨w.heap.size, 1, none⟩ = some (.int .i64 s) ∧ w'.cell? ⟨w.heap.size, 2, none⟩ = some (.slice (some ⟨g, off, none⟩) l.length c) ∧ w'.cell? ⟨w.heap.size, 3, none⟩ = some (.int .i64 t) ∧ w'.cell? ⟨w.heap.size, 4, none⟩ = some (.string x) ∧ w'.cell? ⟨g, off, none⟩ = some (.int .i64 (ia l 0))) (go_keep)
        (first | (go_at_call 51; refine (i_withTags d s _ _ c t x _ _ [] l.tail _ (.inl ⟨rfl, rfl⟩) (HS.out.below (Below.refl _ w1).drew) (by simp) hlt hx).mono ?_; rintro e w3 ⟨v, rfl, hov, hb3⟩; obtain ⟨Tv, cv, rfl⟩ := hov.form; have HOV : Hid (ownI w3 (w.heap.size + 2) (.slice Tv ([] ++ l.tail).length cv) l.tail) := ownI.mono hov (show _ ≤ w1.heap.size by omega); clear hov; have hA3 := hA.drew.below hb3; have hR3 := hR.drew.below hb3; have hF3 := hF.drew.below hb3; have z0 := hA3.2 0 _ rfl; have z1 := hA3.2 1 _ rfl; have z2 := hA3.2 2 _ rfl; have z3 := hA3.2 3 _ rfl; have z4 := hA3.2 4 _ rfl; have r0 := hR3.2 0 _ rfl; have r1 := hR3.2 1 _ rfl; have r2 := hR3.2 2 _ rfl; have r3 := hR3.2 3 _ rfl; have r4 := hR3.2 4 _ rfl; have q0 := hF3.2 0; have q1 := hF3.2 1; have q2 := hF3.2 2; have q3 := hF3.2 3; have q4 := hF3.2 4; have zc : w3.cell? ⟨g, off, none⟩ = some (.int .i64 (ia l 0)) := (hb3.cell (p := ⟨g, off, none⟩) hg).trans hc0))
      have HOW := HOV.out
      have e1 : ([] ++ l.tail).length = l.length - 1 := by simp
      rw [e1] at HOW
      have HOX : Hid (ownI w3 (w.heap.size + 2) (.slice Tv (l.length - 1) cv) l.tail) := HOW
      have hs3 := hb3.size
      replace hB := hB.trans (((Below.refl w1.heap.size w1).drew.trans hb3).mono (by omega))
      clear HOV HOW e1 hb3
      go_wp2
      refine bodyPost_ret (v := .tuple #[.agg #[.int .i64 d, .int .i64 s, .slice Tv (l.length - 1) cv, .int .i64 t, .string x], .int .i64 (ia l 0), .bool true]) ?_ rfl ?_
      · simp [results, Try.results25, go_sem, r0, r1, r2, r3, r4]
      · rw [HE.out.1, HE.out.2, HO.out]
        refine ⟨_, rfl, ?_, ?_⟩
        · show ownI _ w.heap.size _ l.tail
          refine ownI.mono (B := w.heap.size + 2) ?_ (by omega)
          iterate 5 (refine ownI.low ?_ (by omega) _)
          exact HOX.out
        · go_grown
end Go.Proofs.Ytlpapncgcgllfaa
