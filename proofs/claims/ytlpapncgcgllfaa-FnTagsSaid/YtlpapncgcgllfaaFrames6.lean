/-
  Contracts of Tagged, of the program and of the model.
-/
import Derived.Test.YtlpapncgcgllfaaFrames5
namespace Go.Proofs.Ytlpapncgcgllfaa
open Go.RowKit Go.PlainAid
theorem Src.ints {w : World} {T : Option Addr} {n c : Nat} {l : List Int} (h : Src w (.slice T n c) l) : l.length = n ∧ IntsAt w T l := by
  rcases h with ⟨e, rfl⟩ | ⟨ad, c', e, hg, hc⟩
  · simp at e; exact ⟨by simp [e.2.1], .inl rfl⟩
  · simp only [Value.slice.injEq] at e
    obtain ⟨rfl, rfl, rfl⟩ := e
    refine ⟨rfl, ?_⟩
    rcases hg with hg | hg
    · exact .inl hg
    · by_cases h0 : l = []
      · exact .inl h0
      · have hp : 0 < l.length := List.length_pos_iff.2 h0
        obtain ⟨b, off, spot⟩ := ad
        have hspot : spot = none := by simpa [Addr.add] using World.cell?_spot (hc 0 hp)
        subst hspot
        have e : ∀ i, (⟨b, off, none⟩ : Addr).add i = ⟨b, off + i, none⟩ := fun i => by unfold Addr.add; split <;> simp_all
        exact .inr ⟨b, off, rfl, hg, fun i hi => by rw [← e]; exact hc i hi⟩
theorem ownI.src {w : World} {B : Nat} {v : Value} {l : List Int} (h : ownI w B v l) : Src w v l := by
  rcases h.shape with ⟨rfl, rfl⟩ | ⟨g, cap, rfl, _, hg, _⟩
  · exact .inl ⟨rfl, rfl⟩
  · have e : ∀ i, (⟨g, 0, none⟩ : Addr).add i = ⟨g, i, none⟩ := fun i => by unfold Addr.add; split <;> simp_all
    exact .inr ⟨⟨g, 0, none⟩, cap, rfl, .inr hg, fun i hi => by rw [e]; exact h.cell rfl i hi⟩
theorem ownI.lit (w : World) (B : Nat) (k : Int) (hB : B ≤ w.heap.size) : ownI (w.alloc (.cells #[.int .i64 k] 2)) B (.slice (some ⟨w.heap.size, 0, none⟩) 1 1) [k] :=
  World.ownsRow_lit w #[.int .i64 k] 1 hB (by decide) rfl

/-- whether a tag may be put ahead -/
def okT (d s : Int) (l : List Int) (t : Int) (x : ByteArray) (g : Int) : Bool := frameB d s l t x && inB g 0 65535 && decide (l.length ≠ 2)
theorem okT_eq (d s : Int) (l : List Int) (t : Int) (x : ByteArray) (g : Int) : (frameB d s l t x && frameB d s (g :: l) t x) = okT d s l t x g := by
  unfold okT frameB tagsB tagsIn
  simp only [List.length_cons, List.all_cons]
  cases macB d <;> cases macB s <;> cases typeB t <;> cases inB g 0 65535 <;> cases (l.all fun x => inB x 0 65535) <;> simp
  all_goals first | omega | (rw [Bool.eq_iff_iff]; simp; omega)

/-- what comes of a tag put ahead -/
structure Fr where
  d : Int
  s : Int
  l : List Int
  t : Int
  x : ByteArray
def taggedF (d s : Int) (l : List Int) (t : Int) (x : ByteArray) (g : Int) : Fr := if okT d s l t x g then ⟨d, s, g :: l, t, x⟩ else ⟨0, 0, [], 0, ⟨#[]⟩⟩
theorem taggedF_yes {d s : Int} {l : List Int} {t : Int} {x : ByteArray} {g : Int} (h : okT d s l t x g = true) : taggedF d s l t x g = ⟨d, s, g :: l, t, x⟩ := by unfold taggedF; rw [if_pos h]
theorem taggedF_no {d s : Int} {l : List Int} {t : Int} {x : ByteArray} {g : Int} (h : okT d s l t x g = false) : taggedF d s l t x g = ⟨0, 0, [], 0, ⟨#[]⟩⟩ := by unfold taggedF; rw [h]; rfl
/-- a frame that is handed back, and whether -/
def GaveT (w : World) (r : Fr) (ok : Bool) (e : Ending) (w' : World) : Prop :=
  ∃ v : Value, e = .returned (.tuple #[.agg #[.int .i64 r.d, .int .i64 r.s, v, .int .i64 r.t, .string r.x], .bool ok]) ∧ ownI w' w.heap.size v r.l ∧ Below w.heap.size w w'

set_option maxRecDepth 100000 in
set_option maxHeartbeats 1600000 in
theorem i_Tagged (d s : Int) (T : Option Addr) (c : Nat) (l : List Int) (t : Int) (x : ByteArray) (g : Int) (w : World) (h : Src w (.slice T l.length c) l) (hl : l.length ≤ 1048576) (hx : x.size ≤ 1099511627776) :
    Calls Try.prog 23 #[.agg #[.int .i64 d, .int .i64 s, .slice T l.length c, .int .i64 t, .string x], .int .i64 g] w fun e w' => GaveT w (taggedF d s l t x g) (okT d s l t x g) e w' := by
  obtain ⟨W, hW⟩ : ∃ W, W = (w.alloc (.cells #[.int .i64 d, .int .i64 s, .slice T l.length c, .int .i64 t, .string x] 24)).alloc (.cells fr0 24) := ⟨_, rfl⟩
  have hA : Box W w.heap.size (frv d s T l.length c t x) := by rw [hW]; exact (Box.new w #[.int .i64 d, .int .i64 s, .slice T l.length c, .int .i64 t, .string x] 24).below ((Below.refl _ _).alloc (Nat.le_refl _) _)
  have hR : Box W (w.heap.size + 1) fr0.toList := by
    rw [hW]
    have := Box.new (w.alloc (.cells #[.int .i64 d, .int .i64 s, .slice T l.length c, .int .i64 t, .string x] 24)) fr0 24
    simpa using this
  have hF : Free W (w.heap.size + 1) := by
    rw [hW]
    have := Free.new (w.alloc (.cells #[.int .i64 d, .int .i64 s, .slice T l.length c, .int .i64 t, .string x] 24)) fr0 24
    simpa using this
  have hB : Below w.heap.size w W := by rw [hW]; exact ((Below.refl _ w).alloc (Nat.le_refl _) _).alloc (by simp) _
  have hsz : W.heap.size = w.heap.size + 2 := by rw [hW]; simp
  have hS : Src W (.slice T l.length c) l := by rw [hW]; exact (h.alloc _).alloc _
  clear h
  have C0 : Hid (∀ u : World, Src u (.slice T l.length c) l → Calls Try.prog 19 #[.agg #[.int .i64 d, .int .i64 s, .slice T l.length c, .int .i64 t, .string x]] u fun e w' => e = .returned (.bool (frameB d s l t x)) ∧ Below u.heap.size u w') :=
    fun u hu => i_FrameOk d s T c l t x u hu.ints.2 (by omega) hx
  have HK : Hid (okT d s l t x g = (frameB d s l t x && inB g 0 65535 && decide (l.length ≠ 2))) := rfl
  go_enter Try.func23, Try.ntmps23
  go_wp2_with fail
  rw [← hW]
  refine (C0.out W hS).mono ?_
  rintro e w1 ⟨rfl, hb1⟩
  replace hA := hA.below hb1
  replace hR := hR.below hb1
  replace hF := hF.below hb1
  replace hS := hS.below hb1
  replace hB := hB.trans (hb1.mono (by omega))
  have hs1 := hb1.size
  rw [hsz] at hs1
  clear hb1 hW hsz
  have hz1 : w.heap.size < w1.heap.size := by omega
  have hz2 : w.heap.size + 1 < w1.heap.size := by omega
  have a0 := hA.2 0 _ rfl
  have a1 := hA.2 1 _ rfl
  have a2 := hA.2 2 _ rfl
  have a3 := hA.2 3 _ rfl
  have a4 := hA.2 4 _ rfl
  have r0 := hR.2 0 _ rfl
  have r1 := hR.2 1 _ rfl
  have r2 := hR.2 2 _ rfl
  have r3 := hR.2 3 _ rfl
  have r4 := hR.2 4 _ rfl
  have q0 := hF.2 0
  have q1 := hF.2 1
  have q2 := hF.2 2
  have q3 := hF.2 3
  have q4 := hF.2 4
  by_cases hok : okT d s l t x g = true
  · have HE : Hid (taggedF d s l t x g = ⟨d, s, g :: l, t, x⟩) := taggedF_yes hok
    have hk := HK.out
    rw [hok] at hk
    have hk' := hk.symm
    simp only [Bool.and_eq_true, decide_eq_true_eq] at hk'
    obtain ⟨⟨k1, k2⟩, k3⟩ := hk'
    have k4 : ((l.length : Int) == 2) = false := by simp; omega
    rw [k1]
    clear hk k3
    go_wp2_with (go_at_call 50; refine (i_isPair _ _).mono ?_; rintro e wp ⟨rfl, rfl⟩)
    refine (i_withTags d s T _ c t x _ _ [g] l _ (ownI.lit wp wp.heap.size g (Nat.le_refl _)).src (hS.alloc _) (by simp) hl hx).mono ?_
    rintro e w3 ⟨v, rfl, hov, hb3⟩
    have hba : Below wp.heap.size wp w3 := ((Below.refl _ wp).alloc (Nat.le_refl _) _).trans (hb3.mono (by simp))
    replace hR := hR.below hba
    replace hF := hF.below hba
    replace hB := hB.trans (hba.mono (by omega))
    have hov' : ownI w3 (w.heap.size + 2) v (g :: l) := ownI.mono hov (by simp; omega)
    clear r0 r1 r2 r3 r4 q0 q1 q2 q3 q4 a0 a1 a2 a3 a4 hA hS hb3 hba hov
    have r0 := hR.2 0 _ rfl
    have r1 := hR.2 1 _ rfl
    have r2 := hR.2 2 _ rfl
    have r3 := hR.2 3 _ rfl
    have r4 := hR.2 4 _ rfl
    have q0 := hF.2 0
    have q1 := hF.2 1
    have q2 := hF.2 2
    have q3 := hF.2 3
    have q4 := hF.2 4
    rcases hov'.shape with ⟨_, hk⟩ | ⟨gg, cap, rfl, hg⟩
    · cases hk
    · have hg2 := hg.1
      go_wp2
      refine bodyPost_ret (v := .tuple #[.agg #[.int .i64 d, .int .i64 s, .slice (some ⟨gg, 0, none⟩) (g :: l).length cap, .int .i64 t, .string x], .bool true]) ?_ rfl ?_
      · simp [results, Try.results23, go_sem, r0, r1, r2, r3, r4]
      · rw [HE.out, hok]
        refine ⟨_, rfl, ?_, ?_⟩
        · show ownI _ w.heap.size _ (g :: l)
          iterate 5 (refine ownI.aside ?_ (by omega) _)
          exact hov'.mono (by omega)
        · go_grown
  · rw [Bool.not_eq_true] at hok
    have HE : Hid (taggedF d s l t x g = ⟨0, 0, [], 0, ⟨#[]⟩⟩) := taggedF_no hok
    have fin : ∀ wp : World, wp = w1 → GaveT w ⟨0, 0, [], 0, ⟨#[]⟩⟩ false (.returned (.tuple #[.agg #[.int .i64 0, .int .i64 0, .slice none 0 0, .int .i64 0, .string ⟨#[]⟩], .bool false])) (((((wp.setCell ⟨w.heap.size + 1, 0, none⟩ (.int .i64 0)).setCell ⟨w.heap.size + 1, 1, none⟩ (.int .i64 0)).setCell ⟨w.heap.size + 1, 2, none⟩ (.slice none 0 0)).setCell ⟨w.heap.size + 1, 3, none⟩ (.int .i64 0)).setCell ⟨w.heap.size + 1, 4, none⟩ (.string ⟨#[]⟩)) := by
      intro wp hwp
      subst hwp
      exact ⟨_, rfl, ownI.nil _ _, by go_grown⟩
    have FIN : Hid (∀ wp : World, wp = w1 → GaveT w ⟨0, 0, [], 0, ⟨#[]⟩⟩ false (.returned (.tuple #[.agg #[.int .i64 0, .int .i64 0, .slice none 0 0, .int .i64 0, .string ⟨#[]⟩], .bool false])) (((((wp.setCell ⟨w.heap.size + 1, 0, none⟩ (.int .i64 0)).setCell ⟨w.heap.size + 1, 1, none⟩ (.int .i64 0)).setCell ⟨w.heap.size + 1, 2, none⟩ (.slice none 0 0)).setCell ⟨w.heap.size + 1, 3, none⟩ (.int .i64 0)).setCell ⟨w.heap.size + 1, 4, none⟩ (.string ⟨#[]⟩))) := fin
    clear fin
    cases k1 : frameB d s l t x
    · go_wp2
      refine bodyPost_ret (v := .tuple #[.agg #[.int .i64 0, .int .i64 0, .slice none 0 0, .int .i64 0, .string ⟨#[]⟩], .bool false]) ?_ rfl ?_
      · simp [results, Try.results23, go_sem, r0, r1, r2, r3, r4]
      · rw [HE.out, hok]; exact FIN.out _ rfl
    · cases k2 : inB g 0 65535
      · go_wp2_with (go_at_call 50; refine (i_isPair _ _).mono ?_; rintro e wp ⟨rfl, rfl⟩)
        refine bodyPost_ret (v := .tuple #[.agg #[.int .i64 0, .int .i64 0, .slice none 0 0, .int .i64 0, .string ⟨#[]⟩], .bool false]) ?_ rfl ?_
        · simp [results, Try.results23, go_sem, r0, r1, r2, r3, r4]
        · rw [HE.out, hok]; exact FIN.out _ rfl
      · have k3 : ((l.length : Int) == 2) = true := by
          have hk := HK.out
          rw [hok, k1, k2] at hk; simp at hk; simp; omega
        go_wp2_with (go_at_call 50; refine (i_isPair _ _).mono ?_; rintro e wp ⟨rfl, rfl⟩)
        refine bodyPost_ret (v := .tuple #[.agg #[.int .i64 0, .int .i64 0, .slice none 0 0, .int .i64 0, .string ⟨#[]⟩], .bool false]) ?_ rfl ?_
        · simp [results, Try.results23, go_sem, r0, r1, r2, r3, r4]
        · rw [HE.out, hok]; exact FIN.out _ rfl
end Go.Proofs.Ytlpapncgcgllfaa
