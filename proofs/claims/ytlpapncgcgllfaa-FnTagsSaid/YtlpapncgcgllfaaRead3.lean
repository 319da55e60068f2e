/-
  The contract of the program's ReadFrame.
-/
import Derived.Test.YtlpapncgcgllfaaRead2
namespace Go.Proofs.Ytlpapncgcgllfaa
open Go.RowKit Go.PlainAid
/-- what is read of a text, step by step -/
def rdR (s : ByteArray) : Rt := tread s (nextP s (nextP s 0 6) 6) (nextF s (nextP s 0 6) 6 (nextF s 0 6 false))
def rdX (s : ByteArray) : ByteArray := s.extract (rdR s).p.toNat s.size
def rdOk (s : ByteArray) : Bool := !(rdR s).f && frameB (numAt s 0 6) (numAt s (nextP s 0 6) 6) (rdR s).l (rdR s).t (rdX s)
def rdFr (s : ByteArray) : Fr := if rdOk s then ⟨numAt s 0 6, numAt s (nextP s 0 6) 6, (rdR s).l, (rdR s).t, rdX s⟩ else ⟨0, 0, [], 0, ⟨#[]⟩⟩
theorem tgo_len (s : ByteArray) : ∀ (n : Nat) (l : List Int) (t p : Int) (f : Bool), (tgo s n l t p f).l.length ≤ l.length + n
  | 0, l, t, p, f => by simp [tgo]
  | n + 1, l, t, p, f => by
    rw [tgo]; split
    · have := tgo_len s n (l ++ [numAt s p 2]) (numAt s (nextP s p 2) 2) (nextP s (nextP s p 2) 2) (nextF s (nextP s p 2) 2 (nextF s p 2 f))
      simp at this; omega
    · simp
theorem rdR_len (s : ByteArray) : (rdR s).l.length ≤ 2 := by
  have := tgo_len s 2 [] (numAt s (nextP s (nextP s 0 6) 6) 2) (nextP s (nextP s (nextP s 0 6) 6) 2) (nextF s (nextP s (nextP s 0 6) 6) 2 (nextF s (nextP s 0 6) 6 (nextF s 0 6 false)))
  simpa [rdR, tread] using this
theorem rdFr_yes {s : ByteArray} (h : rdOk s = true) : rdFr s = ⟨numAt s 0 6, numAt s (nextP s 0 6) 6, (rdR s).l, (rdR s).t, rdX s⟩ := by unfold rdFr; rw [if_pos h]
theorem rdFr_no {s : ByteArray} (h : rdOk s = false) : rdFr s = ⟨0, 0, [], 0, ⟨#[]⟩⟩ := by unfold rdFr; rw [h]; rfl

set_option maxRecDepth 100000 in
set_option maxHeartbeats 3200000 in
theorem i_ReadFrame (s : ByteArray) (w : World) (hs2 : s.size ≤ 1099511627776) :
    Calls Try.prog 8 #[.string s] w fun e w' => GaveT w (rdFr s) (rdOk s) e w' := by
  have hs : s.size ≤ maxLen := by unfold maxLen; omega
  obtain ⟨W, hW⟩ : ∃ W, W = ((w.alloc (.cells fr0 24)).alloc (.cells #[.string s, .int .i64 0, .bool false] 45)).alloc (.cells fr0 24) := ⟨_, rfl⟩
  have hsz : W.heap.size = w.heap.size + 3 := by rw [hW]; simp
  have hB : Below w.heap.size w W := by rw [hW]; exact (((Below.refl _ w).alloc (Nat.le_refl _) _).alloc (by simp) _).alloc (by simp; omega) _
  have hR : Box W w.heap.size fr0.toList := by rw [hW]; exact ((Box.new w fr0 24).below ((Below.refl _ _).alloc (Nat.le_refl _) _)).below ((Below.refl _ _).alloc (Nat.le_refl _) _)
  have hF : Free W w.heap.size := by rw [hW]; exact ((Free.new w fr0 24).below ((Below.refl _ _).alloc (Nat.le_refl _) _)).below ((Below.refl _ _).alloc (Nat.le_refl _) _)
  have hD : Box W (w.heap.size + 1) (rdv s 0 false) := by
    rw [hW]
    have := (Box.new (w.alloc (.cells fr0 24)) #[.string s, .int .i64 0, .bool false] 45).below ((Below.refl _ _).alloc (Nat.le_refl _) (.cells fr0 24))
    simpa using this
  have hE : Free W (w.heap.size + 1) := by
    rw [hW]
    have := (Free.new (w.alloc (.cells fr0 24)) #[.string s, .int .i64 0, .bool false] 45).below ((Below.refl _ _).alloc (Nat.le_refl _) (.cells fr0 24))
    simpa using this
  have hO : Box W (w.heap.size + 1 + 1) fr0.toList := by
    rw [hW]
    have := Box.new ((w.alloc (.cells fr0 24)).alloc (.cells #[.string s, .int .i64 0, .bool false] 45)) fr0 24
    simpa using this
  have hG : Free W (w.heap.size + 1 + 1) := by
    rw [hW]
    have := Free.new ((w.alloc (.cells fr0 24)).alloc (.cells #[.string s, .int .i64 0, .bool false] 45)) fr0 24
    simpa using this
  have HOK : Hid (rdOk s = (!(rdR s).f && frameB (numAt s 0 6) (numAt s (nextP s 0 6) 6) (rdR s).l (rdR s).t (rdX s))) := rfl
  have HYES : Hid (rdOk s = true → rdFr s = ⟨numAt s 0 6, numAt s (nextP s 0 6) 6, (rdR s).l, (rdR s).t, rdX s⟩) := rdFr_yes
  have HNO : Hid (rdOk s = false → rdFr s = ⟨0, 0, [], 0, ⟨#[]⟩⟩) := rdFr_no
  have P0 := nextP_in (s := s) (p := 0) (k := 6) (by omega) (by omega) (by decide)
  have P1 := nextP_in (s := s) (p := nextP s 0 6) (k := 6) P0.1 P0.2 (by decide)
  obtain ⟨R, hRr⟩ : ∃ R, R = rdR s := ⟨_, rfl⟩
  have hlen : R.l.length ≤ 2 := by rw [hRr]; exact rdR_len s
  obtain ⟨X, hX⟩ : ∃ X, X = rdX s := ⟨_, rfl⟩
  have HX : Hid (X = s.extract R.p.toNat s.size) := by rw [hX, hRr]; rfl
  have hXs : X.size ≤ 1099511627776 := by rw [HX.out]; simp; omega
  have HT : Hid (tread s (nextP s (nextP s 0 6) 6) (nextF s (nextP s 0 6) 6 (nextF s 0 6 false)) = R) := hRr.symm
  rw [← hRr, ← hX] at HOK HYES
  clear hRr hX
  obtain ⟨rl, rt, rp, rf⟩ := R
  simp only at hlen HX HOK HYES
  obtain ⟨dd, hdd⟩ : ∃ d, d = numAt s 0 6 := ⟨_, rfl⟩
  obtain ⟨ss, hss⟩ : ∃ d, d = numAt s (nextP s 0 6) 6 := ⟨_, rfl⟩
  rw [← hdd, ← hss] at HOK HYES
  have HDD : Hid (numAt s 0 6 = dd) := hdd.symm
  have HSS : Hid (numAt s (nextP s 0 6) 6 = ss) := hss.symm
  clear hdd hss
  go_enter Try.func8, Try.ntmps8
  go_wp2_with fail
  rw [← hW]
  clear hW
  refine (i_number s 0 6 false (w.heap.size + 1) _ hD hE hs (by omega) (by omega) (by decide) (by decide) hs2).mono ?_
  rintro e w1 ⟨rfl, hr1⟩
  rw [HDD.out]
  have zw1 := hr1.grown.size
  replace hF := hF.by hR.1 hr1.grown (fun i e => by cases e; omega)
  replace hR := hR.by hr1.grown (fun i e => by cases e; omega)
  replace hG := hG.by hO.1 hr1.grown (fun i e => by cases e; omega)
  replace hO := hO.by hr1.grown (fun i e => by cases e; omega)
  replace hB := hB.trans (grownBy_below hr1.grown hB.size (fun i e => by cases e; omega))
  replace hD := hr1.box
  replace hE := hr1.free
  clear hr1
  have p0 := hO.2 0 _ rfl
  have q0 := hG.2 0
  go_wp2_with fail
  clear p0 q0
  obtain ⟨w2, hw2⟩ : ∃ u, u = (w1.setCell ⟨w.heap.size + 1 + 1, 0, none⟩ (.int .i64 dd)) := ⟨_, rfl⟩
  rw [← hw2]
  have zw2 : w2.heap.size = w1.heap.size := by rw [hw2]; simp
  replace hR : Box w2 w.heap.size fr0.toList := by rw [hw2]; exact (hR.other (by omega) _)
  replace hF : Free w2 w.heap.size := by rw [hw2]; exact (hF.set _ _)
  have hD2 := (Box.other hD (b' := w.heap.size + 1 + 1) (j := 0) (by omega) (.int .i64 dd))
  rw [← hw2] at hD2
  replace hE : Free w2 (w.heap.size + 1) := by rw [hw2]; exact (hE.set _ _)
  have hO2 := (Box.set hO 0 (.int .i64 dd))
  rw [← hw2] at hO2
  replace hG : Free w2 (w.heap.size + 1 + 1) := by rw [hw2]; exact (hG.set _ _)
  replace hB : Below w.heap.size w w2 := by rw [hw2]; exact (hB.setCell (by simp; omega) _)
  clear hD hO hw2
  have hD := hD2
  have hO := hO2
  clear hD2 hO2
  refine (i_number s (nextP s 0 6) 6 _ (w.heap.size + 1) _ hD hE hs P0.1 P0.2 (by decide) (by decide) hs2).mono ?_
  rintro e w3 ⟨rfl, hr3⟩
  rw [HSS.out]
  have zw3 := hr3.grown.size
  replace hF := hF.by hR.1 hr3.grown (fun i e => by cases e; omega)
  replace hR := hR.by hr3.grown (fun i e => by cases e; omega)
  replace hG := hG.by hO.1 hr3.grown (fun i e => by cases e; omega)
  replace hO := hO.by hr3.grown (fun i e => by cases e; omega)
  replace hB := hB.trans (grownBy_below hr3.grown hB.size (fun i e => by cases e; omega))
  replace hD := hr3.box
  replace hE := hr3.free
  clear hr3
  have p1 := hO.2 1 _ rfl
  have q1 := hG.2 1
  go_wp2_with fail
  clear p1 q1
  obtain ⟨w4, hw4⟩ : ∃ u, u = (w3.setCell ⟨w.heap.size + 1 + 1, 1, none⟩ (.int .i64 ss)) := ⟨_, rfl⟩
  rw [← hw4]
  have zw4 : w4.heap.size = w3.heap.size := by rw [hw4]; simp
  replace hR : Box w4 w.heap.size fr0.toList := by rw [hw4]; exact (hR.other (by omega) _)
  replace hF : Free w4 w.heap.size := by rw [hw4]; exact (hF.set _ _)
  have hD2 := (Box.other hD (b' := w.heap.size + 1 + 1) (j := 1) (by omega) (.int .i64 ss))
  rw [← hw4] at hD2
  replace hE : Free w4 (w.heap.size + 1) := by rw [hw4]; exact (hE.set _ _)
  have hO2 := (Box.set hO 1 (.int .i64 ss))
  rw [← hw4] at hO2
  replace hG : Free w4 (w.heap.size + 1 + 1) := by rw [hw4]; exact (hG.set _ _)
  replace hB : Below w.heap.size w w4 := by rw [hw4]; exact (hB.setCell (by simp; omega) _)
  clear hD hO hw4
  have hD := hD2
  have hO := hO2
  clear hD2 hO2
  refine (i_tagsAndType s (nextP s (nextP s 0 6) 6) _ (w.heap.size + 1) _ hD hE hs P1.1 P1.2 hs2).mono ?_
  rw [HT.out]
  rintro e w5 ⟨va, rfl, hoa, hr5, hp5, hp6⟩
  obtain ⟨Ta, ca, rfl⟩ := hoa.form
  simp only at hoa hr5 hp5 hp6
  have zw5 := hr5.grown.size
  replace hF := hF.by hR.1 hr5.grown (fun i e => by cases e; omega)
  replace hR := hR.by hr5.grown (fun i e => by cases e; omega)
  replace hG := hG.by hO.1 hr5.grown (fun i e => by cases e; omega)
  replace hO := hO.by hr5.grown (fun i e => by cases e; omega)
  replace hB := hB.trans (grownBy_below hr5.grown hB.size (fun i e => by cases e; omega))
  replace hD := hr5.box
  replace hE := hr5.free
  clear hr5
  have p2 := hO.2 2 _ rfl
  have q2 := hG.2 2
  have p3 := hO.2 3 _ rfl
  have q3 := hG.2 3
  go_wp2_with fail
  clear p2 q2 p3 q3
  obtain ⟨w6, hw6⟩ : ∃ u, u = ((w5.setCell ⟨w.heap.size + 1 + 1, 2, none⟩ (.slice Ta rl.length ca)).setCell ⟨w.heap.size + 1 + 1, 3, none⟩ (.int .i64 rt)) := ⟨_, rfl⟩
  rw [← hw6]
  have zw6 : w6.heap.size = w5.heap.size := by rw [hw6]; simp
  replace hR : Box w6 w.heap.size fr0.toList := by rw [hw6]; exact ((hR.other (by omega) _).other (by omega) _)
  replace hF : Free w6 w.heap.size := by rw [hw6]; exact ((hF.set _ _).set _ _)
  have hD2 := (Box.other (Box.other hD (b' := w.heap.size + 1 + 1) (j := 2) (by omega) (.slice Ta rl.length ca)) (b' := w.heap.size + 1 + 1) (j := 3) (by omega) (.int .i64 rt))
  rw [← hw6] at hD2
  replace hE : Free w6 (w.heap.size + 1) := by rw [hw6]; exact ((hE.set _ _).set _ _)
  have hO2 := (Box.set (Box.set hO 2 (.slice Ta rl.length ca)) 3 (.int .i64 rt))
  rw [← hw6] at hO2
  replace hG : Free w6 (w.heap.size + 1 + 1) := by rw [hw6]; exact ((hG.set _ _).set _ _)
  replace hB : Below w.heap.size w w6 := by rw [hw6]; exact ((hB.setCell (by simp; omega) _).setCell (by simp; omega) _)
  have hoa2 := (ownI.low (ownI.low hoa (b := w.heap.size + 1 + 1) (j := 2) (by omega) (.slice Ta rl.length ca)) (b := w.heap.size + 1 + 1) (j := 3) (by omega) (.int .i64 rt))
  rw [← hw6] at hoa2
  clear hD hO hw6
  have hD := hD2
  have hO := hO2
  clear hD2 hO2
  refine (i_rest s rp rf (w.heap.size + 1) _ hD hp5 hp6 hs2).mono ?_
  rw [← HX.out]
  rintro e w7 ⟨rfl, hb7⟩
  have zw7 := hb7.size
  replace hR := hR.below hb7
  replace hF := hF.below hb7
  replace hG := hG.below hb7
  replace hO := hO.below hb7
  replace hD := hD.below hb7
  replace hE := hE.below hb7
  replace hB := hB.trans (hb7.mono hB.size)
  have hoa3 := hoa2.far hb7
  clear hb7 hoa hoa2
  have p4 := hO.2 4 _ rfl
  have q4 := hG.2 4
  have d2 := hD.2 2 _ rfl
  have p0 := hO.2 0 _ rfl
  have p1 := hO.2 1 _ rfl
  have p2 := hO.2 2 _ rfl
  have p3 := hO.2 3 _ rfl
  have r0 := hR.2 0 _ rfl
  have f0 := hF.2 0
  have r1 := hR.2 1 _ rfl
  have f1 := hF.2 1
  have r2 := hR.2 2 _ rfl
  have f2 := hF.2 2
  have r3 := hR.2 3 _ rfl
  have f3 := hF.2 3
  have r4 := hR.2 4 _ rfl
  have f4 := hF.2 4
  have fin : Hid (∀ wp : World, Below w.heap.size w wp → GaveT w ⟨0, 0, [], 0, ⟨#[]⟩⟩ false (.returned (.tuple #[.agg #[.int .i64 0, .int .i64 0, .slice none 0 0, .int .i64 0, .string ⟨#[]⟩], .bool false])) wp) := fun wp hwp => ⟨_, rfl, ownI.nil _ _, hwp⟩
  cases rf
  · go_wp2_with fail
    obtain ⟨w8, hw8⟩ : ∃ u, u = w7.setCell ⟨w.heap.size + 1 + 1, 4, none⟩ (.string X) := ⟨_, rfl⟩
    rw [← hw8]
    have zw8 : w8.heap.size = w7.heap.size := by rw [hw8]; simp
    have hR8 : Box w8 w.heap.size fr0.toList := by rw [hw8]; exact hR.other (by omega) _
    have hF8 : Free w8 w.heap.size := by rw [hw8]; exact hF.set _ _
    have hO8 : Box w8 (w.heap.size + 1 + 1) (frv dd ss Ta rl.length ca rt X) := by rw [hw8]; exact hO.set 4 _
    have hB8 : Below w.heap.size w w8 := by rw [hw8]; exact hB.setCell (by simp; omega) _
    have hoa8 : ownI w8 w4.heap.size (.slice Ta rl.length ca) rl := by rw [hw8]; exact hoa3.low (by omega) _
    clear hR hF hO hB hoa3 hD hE hG hw8 p0 p1 p2 p3 p4 q4 d2 r0 r1 r2 r3 r4 f0 f1 f2 f3 f4
    refine (i_FrameOk dd ss Ta ca rl rt X w8 hoa8.src.ints.2 (by omega) hXs).mono ?_
    rintro e w9 ⟨rfl, hb9⟩
    have zw9 := hb9.size
    have hR := hR8.below hb9
    have hF := hF8.below hb9
    have hO := hO8.below hb9
    have hB := hB8.trans (hb9.mono hB8.size)
    have hoa9 := hoa8.far hb9
    have HOA : Hid (ownI w9 w4.heap.size (.slice Ta rl.length ca) rl) := hoa9
    clear hR8 hF8 hO8 hB8 hoa8 hoa9 hb9
    have r0 := hR.2 0 _ rfl
    have f0 := hF.2 0
    have p0 := hO.2 0 _ rfl
    have r1 := hR.2 1 _ rfl
    have f1 := hF.2 1
    have p1 := hO.2 1 _ rfl
    have r2 := hR.2 2 _ rfl
    have f2 := hF.2 2
    have p2 := hO.2 2 _ rfl
    have r3 := hR.2 3 _ rfl
    have f3 := hF.2 3
    have p3 := hO.2 3 _ rfl
    have r4 := hR.2 4 _ rfl
    have f4 := hF.2 4
    have p4 := hO.2 4 _ rfl
    have zz : w.heap.size ≠ w.heap.size + 1 + 1 := by omega
    have zy : w.heap.size < w4.heap.size := by omega
    cases hfr : frameB dd ss rl rt X
    · have HO : Hid (rdOk s = false) := by rw [HOK.out, hfr]; rfl
      have HE : Hid (rdFr s = ⟨0, 0, [], 0, ⟨#[]⟩⟩) := HNO.out HO.out
      clear HOK HYES HNO hfr
      go_wp2
      refine bodyPost_ret (v := .tuple #[.agg #[.int .i64 0, .int .i64 0, .slice none 0 0, .int .i64 0, .string ⟨#[]⟩], .bool false]) ?_ rfl ?_
      · simp [results, Try.results8, go_sem, r0, r1, r2, r3, r4]
      · rw [HE.out, HO.out]; exact fin.out _ (by go_grown)
    · have HO : Hid (rdOk s = true) := by rw [HOK.out, hfr]; rfl
      have HE : Hid (rdFr s = ⟨dd, ss, rl, rt, X⟩) := HYES.out HO.out
      clear HOK HYES HNO hfr fin
      go_wp2
      refine bodyPost_ret (v := .tuple #[.agg #[.int .i64 dd, .int .i64 ss, .slice Ta rl.length ca, .int .i64 rt, .string X], .bool true]) ?_ rfl ?_
      · simp [results, Try.results8, go_sem, r0, r1, r2, r3, r4]
      · rw [HE.out, HO.out]
        refine ⟨_, rfl, ?_, ?_⟩
        · show ownI _ w.heap.size _ rl
          refine ownI.mono (B := w4.heap.size) ?_ (by omega)
          iterate 5 (refine ownI.low ?_ (by omega) _)
          exact HOA.out
        · go_grown
  · have HO : Hid (rdOk s = false) := by rw [HOK.out]; rfl
    have HE : Hid (rdFr s = ⟨0, 0, [], 0, ⟨#[]⟩⟩) := HNO.out HO.out
    clear HOK HYES HNO
    go_wp2
    refine bodyPost_ret (v := .tuple #[.agg #[.int .i64 0, .int .i64 0, .slice none 0 0, .int .i64 0, .string ⟨#[]⟩], .bool false]) ?_ rfl ?_
    · simp [results, Try.results8, go_sem, r0, r1, r2, r3, r4]
    · rw [HE.out, HO.out]; exact fin.out _ (by go_grown)
end Go.Proofs.Ytlpapncgcgllfaa
