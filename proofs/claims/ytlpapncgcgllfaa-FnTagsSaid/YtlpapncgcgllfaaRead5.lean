/-
  The contract of the model's ReadFrame.
-/
import Derived.Test.YtlpapncgcgllfaaRead4
namespace Go.Proofs.Ytlpapncgcgllfaa
open Go.RowKit Go.PlainAid
/-- append of one number, as one step of a region that draws its order -/
theorem step_append_i {w : World} {ops : Array Oper} {o : Oper} {a : Act} {K : Act → World → Prop} {Q : Exit → Act → World → Prop} {E : Prop} (hgd : o.guard = none) (s x : Operand)
    (ho : o.op = .call { callee := .builtin .append, args := #[s, x], argTypes := #[22, 22] })
    (B : Nat) (v : Value) (l : List Int) (hs : a.eval s = v) (hown : ownI w B v l)
    (c : Int) (hx : a.eval x = .slice (some ⟨w.heap.size, 0, none⟩) 1 1) (hl : l.length ≤ 1099511627776) (hB : B ≤ w.heap.size)
    (h : ∀ v' w', ownI w' B v' (l ++ [c]) → Below B w w' → K (a.put o.dst v') w') :
    if Region.wanted o (yielded ops a.tmps) = true then Oper.wp Try.prog o a ((w.alloc (.cells #[.int .i64 c] 2)).drew) K Q else E := by
  have hw : Region.wanted o (yielded ops a.tmps) = true := by simp [Region.wanted, hgd]
  rw [if_pos hw]
  obtain ⟨i0, hi, hz0, hz1, hz2⟩ := info_parts Try.infoI
  have hcs : ∀ j u, [Value.int .i64 c][j]? = some u → ((w.alloc (.cells #[.int .i64 c] 2)).drew).cell? ((⟨w.heap.size, 0, none⟩ : Addr).add j) = some u := by
    intro j u hj
    match j, hj with
    | 0, hj => simp at hj; subst hj; simp [Addr.add]
  have hB' : B ≤ ((w.alloc (.cells #[.int .i64 c] 2)).drew).heap.size := by simp; omega
  refine wp_append_own _ s x 22 ho B 2 i0 (.int .i64 0) 1 8 Try.underlying22 hi hz0 hz1 hz2 rfl (by decide) v l.length (icells l) hs (ownI.drew (ownI.alloc hown _)) ⟨w.heap.size, 0, none⟩ 1 1 [.int .i64 c] hx rfl hcs ?_ (by unfold maxLen; omega) (by omega) hB' ?_
  · intro u hu; simp at hu; subst hu; rfl
  · intro v' w' h2 h3 _
    refine h v' w' ?_ ((((Below.refl B w).alloc hB _).drew).grown h3 hB' fun k hk => (World.ownsRow.lt hown k hk).1)
    unfold ownI
    have e3 : icells (l ++ [c]) = icells l ++ [.int .i64 c] := by simp [icells]
    rw [e3]; simpa using h2
set_option maxRecDepth 100000 in
set_option maxHeartbeats 6400000 in
theorem s_ReadFrame (s : ByteArray) (w : World) (hs2 : s.size ≤ 1099511627776) :
    Calls Try.prog 7 #[.string s] w fun e w' => GaveT w (rdFr s) (rdOk s) e w' := by
  have hs : s.size ≤ maxLen := by unfold maxLen; omega
  have hR : Box (w.alloc (.cells fr0 24)) w.heap.size fr0.toList := Box.new w fr0 24
  have hF : Free (w.alloc (.cells fr0 24)) w.heap.size := Free.new w fr0 24
  have hB : Below w.heap.size w (w.alloc (.cells fr0 24)) := (Below.refl _ w).alloc (Nat.le_refl _) _
  have fin : Hid (∀ wp : World, Below w.heap.size w wp → GaveT w ⟨0, 0, [], 0, ⟨#[]⟩⟩ false (.returned (.tuple #[.agg #[.int .i64 0, .int .i64 0, .slice none 0 0, .int .i64 0, .string ⟨#[]⟩], .bool false])) wp) := fun wp hwp => ⟨_, rfl, ownI.nil _ _, hwp⟩
  have CAt : Hid (∀ (u : World) (p k : Int), 0 ≤ p → 1 ≤ k → k ≤ 7 → p + k ≤ s.size → Calls Try.prog 27 #[.string s, .int .i64 p, .int .i64 k] u fun e w' => e = .returned (.int .i64 (numAt s p k)) ∧ w' = u) := by
    intro u p k h0 h1 h7 hin
    rw [(okN_true ⟨h1, h7, h0, hin⟩).2]
    exact s_At s p k u hs h0 (by omega) h7 hin
  by_cases h14 : s.size < 14
  · have HO : Hid (rdOk s = false) := rd_short h14
    have HE : Hid (rdFr s = ⟨0, 0, [], 0, ⟨#[]⟩⟩) := rdFr_no HO.out
    have h14' : (s.size : Int) < 14 := by omega
    go_enter Try.func7, Try.ntmps7
    go_wp2
    refine bodyPost_ret (v := .tuple #[.agg #[.int .i64 0, .int .i64 0, .slice none 0 0, .int .i64 0, .string ⟨#[]⟩], .bool false]) ?_ rfl ?_
    · simp [results, Try.results7, go_sem]
    · rw [HE.out, HO.out]; exact fin.out _ (by first | go_grown | exact hB)
  · have h14' : ¬ (s.size : Int) < 14 := by omega
    have HST := rd_start (s := s) (by omega)
    have HS1 : Hid (tgo s 2 [] (numAt s 12 2) (12 + 2) false = rdR s) := HST.2
    clear HST
    have hg14 : 14 ≤ s.size := by omega
    go_enter Try.func7, Try.ntmps7
    go_wp2_with (go_at_call 27; refine (CAt.out _ _ _ (by omega) (by omega) (by omega) (by omega)).mono ?_; rintro e wq ⟨rfl, hq⟩; rw [hq]; clear hq wq)
    obtain ⟨W, hW⟩ : ∃ u, u = (w.alloc (.cells fr0 24)).alloc (.cells #[.int .i64 (numAt s 0 6), .int .i64 (numAt s 6 6), .slice none 0 0, .int .i64 0, .string ⟨#[]⟩] 24) := ⟨_, rfl⟩
    rw [← hW]
    have hb1 : Below (w.alloc (.cells fr0 24)).heap.size (w.alloc (.cells fr0 24)) W := by rw [hW]; exact (Below.refl _ _).alloc (Nat.le_refl _) _
    replace hR := hR.below hb1
    replace hF := hF.below hb1
    replace hB := hB.trans (hb1.mono (by simp))
    have hO : Box W (w.heap.size + 1) (frv (numAt s 0 6) (numAt s 6 6) none 0 0 0 ⟨#[]⟩) := by
      rw [hW]
      have := Box.new (w.alloc (.cells fr0 24)) #[.int .i64 (numAt s 0 6), .int .i64 (numAt s 6 6), .slice none 0 0, .int .i64 0, .string ⟨#[]⟩] 24
      simpa using this
    have hG : Free W (w.heap.size + 1) := by
      rw [hW]
      have := Free.new (w.alloc (.cells fr0 24)) #[.int .i64 (numAt s 0 6), .int .i64 (numAt s 6 6), .slice none 0 0, .int .i64 0, .string ⟨#[]⟩] 24
      simpa using this
    have hsW : W.heap.size = w.heap.size + 2 := by rw [hW]; simp
    clear hW hb1
    generalize hdd : numAt s 0 6 = dd at *
    generalize hss : numAt s 6 6 = ss at *
    have HDD : Hid (numAt s 0 6 = dd) := hdd
    have HSS : Hid (numAt s 6 6 = ss) := hss
    clear hdd hss
    go_loopw [5] (fun i wr => ∃ (tags : List Int) (a : Int) (v : Value), i = .int .i64 a ∧ Hid (tgo s (2 - tags.length) tags (numAt s a 2) (a + 2) false = rdR s) ∧ tags.length ≤ 2 ∧ 12 ≤ a ∧ a + 2 ≤ s.size ∧ ownI wr (w.heap.size + 2) v tags ∧ Box wr (w.heap.size + 1) [.int .i64 dd, .int .i64 ss, v, .int .i64 0, .string ⟨#[]⟩] ∧ Free wr (w.heap.size + 1) ∧ Box wr w.heap.size fr0.toList ∧ Free wr w.heap.size ∧ Below w.heap.size w wr ∧ w.heap.size + 2 ≤ wr.heap.size) (fun i _ => ((s.size : Int) - intOf i).toNat)
    case atStart => exact ⟨[], 12, _, rfl, HS1, by simp, by omega, by omega, ownI.nil _ _, hO, hG, hR, hF, hB, by omega⟩
    case round =>
      clear hO hG hR hF hB HS1 hsW
      obtain ⟨tags, a, v, rfl, HG, hl2, ha, ha2, hown, hO, hG, hR, hF, hB, hsz⟩ := hrel
      obtain ⟨Tv, cv, rfl⟩ := hown.form
      have p0 := hO.2 0 _ rfl
      have p1 := hO.2 1 _ rfl
      have p2 := hO.2 2 _ rfl
      have p3 := hO.2 3 _ rfl
      have p4 := hO.2 4 _ rfl
      have q3 := hG.2 3
      have q4 := hG.2 4
      have e6 : IntKind.i64.wrap (a + 6) = a + 6 := wraps_i64 _ (by omega) (by omega)
      have e4 : IntKind.i64.wrap (a + 4) = a + 4 := wraps_i64 _ (by omega) (by omega)
      have e2 : IntKind.i64.wrap (a + 2) = a + 2 := wraps_i64 _ (by omega) (by omega)
      have b2 : 0 ≤ a + 2 := by omega
      by_cases h6 : a + 6 ≤ s.size
      · by_cases hk : numAt s a 2 = 33024
        · by_cases hlt : tags.length < 2
          · have hlt' : (tags.length : Int) < 2 := by omega
            have q2 := hG.2 2
            have hzz : w.heap.size + 1 < wr.heap.size := by omega
            have hzy : ¬ w.heap.size + 1 = wr.heap.size := by omega
            have HG' : Hid (tgo s (2 - (tags ++ [numAt s (a + 2) 2]).length) (tags ++ [numAt s (a + 2) 2]) (numAt s (a + 4) 2) (a + 4 + 2) false = rdR s) := by
              have e := HG.out
              rw [show 2 - tags.length = (2 - (tags ++ [numAt s (a + 2) 2]).length) + 1 by simp; omega, hk, tgo_step h6 (by omega)] at e
              exact e
            clear HG p3 p4 q3 q4
            go_wp2_with (go_at_call 27; refine (CAt.out _ _ _ (by omega) (by omega) (by omega) (by omega)).mono ?_; rintro e wq ⟨rfl, hq⟩; rw [hq]; clear hq wq)
            go_region_law (first
              | (refine step_append_i rfl _ _ rfl (w.heap.size + 2) _ _ rfl hown (numAt s (a + 2) 2) rfl (by omega) hsz ?_; intro va w3 hoa hba'; have hO3 := hO.belowB hba' (by omega); have hG3 := hG.belowB hba' (by omega); have hR3 := hR.belowB hba' (by omega); have hF3 := hF.belowB hba' (by omega); have hB3 := hB.trans (hba'.mono (by omega)); have hs3 : w.heap.size + 2 ≤ w3.heap.size := Nat.le_trans hsz hba'.size; obtain ⟨Tw, cw, rfl⟩ := hoa.form; have HOA : Hid (ownI w3 (w.heap.size + 2) (.slice Tw (tags ++ [numAt s (a + 2) 2]).length cw) (tags ++ [numAt s (a + 2) 2])) := hoa; have t2 := hO3.2 2 _ rfl; have u2 := hG3.2 2; clear hoa hba')
              | (go_simp; go_at_call 27; refine (CAt.out _ _ _ (by omega) (by omega) (by omega) (by omega)).mono ?_; rintro e wq ⟨rfl, hq⟩; rw [hq]; clear hq wq))
            all_goals
              have hlq : (tags ++ [numAt s (a + 2) 2]).length = tags.length + 1 := by simp
              have HOB := HOA.out
              rw [hlq] at HOB
              have HOC : Hid (ownI w3 (w.heap.size + 2) (.slice Tw (tags.length + 1) cw) (tags ++ [numAt s (a + 2) 2])) := HOB
              clear HOA HOB hlq hown hO hG hR hF hB p0 p1 p2 q2
              go_wp2
              go_roundw
              case rel => exact ⟨tags ++ [numAt s (a + 2) 2], a + 4, .slice Tw (tags.length + 1) cw, rfl, HG', by simp; omega, by omega, by omega, HOC.out.low (by omega) _, hO3.set 2 _, hG3.set _ _, hR3.other (by omega) _, hF3.set _ _, hB3.setCell (by simp) _, by simpa using hs3⟩
              case measure => simp [intOf]; omega
          · have hlt' : ¬ (tags.length : Int) < 2 := by omega
            have HX0 := rd_exit (s := s) (tags := tags) (a := a) (by omega) hg14 HG.out (fun h => hlt h.2.2)
            rw [hk] at HX0
            have HX : Hid (rdOk s = frameB dd ss tags (33024) (s.extract (a + 2).toNat s.size) ∧ (rdOk s = true → rdFr s = ⟨dd, ss, tags, 33024, s.extract (a + 2).toNat s.size⟩)) := by rw [← HDD.out, ← HSS.out]; exact HX0
            clear HX0 HG
            go_wp2_with (go_at_call 27; refine (CAt.out _ _ _ (by omega) (by omega) (by omega) (by omega)).mono ?_; rintro e wq ⟨rfl, hq⟩; rw [hq]; clear hq wq)
            obtain ⟨w8, hw8⟩ : ∃ u, u = (wr.setCell ⟨w.heap.size + 1, 3, none⟩ (.int .i64 (33024))).setCell ⟨w.heap.size + 1, 4, none⟩ (.string (s.extract (a + 2).toNat s.size)) := ⟨_, rfl⟩
            rw [← hw8]
            have zw8 : w8.heap.size = wr.heap.size := by rw [hw8]; simp
            have hR8 : Box w8 w.heap.size fr0.toList := by rw [hw8]; exact (hR.other (by omega) _).other (by omega) _
            have hF8 : Free w8 w.heap.size := by rw [hw8]; exact (hF.set _ _).set _ _
            have hO8 : Box w8 (w.heap.size + 1) (frv dd ss Tv tags.length cv (33024) (s.extract (a + 2).toNat s.size)) := by rw [hw8]; exact (hO.set 3 _).set 4 _
            have hB8 : Below w.heap.size w w8 := by rw [hw8]; exact (hB.setCell (by simp) _).setCell (by simp) _
            have hoa8 : ownI w8 (w.heap.size + 2) (.slice Tv tags.length cv) tags := by rw [hw8]; exact (hown.low (by omega) _).low (by omega) _
            clear hR hF hO hB hown hG hw8 p0 p1 p2 p3 p4 q3 q4
            refine (s_FrameOk dd ss Tv cv tags (33024) (s.extract (a + 2).toNat s.size) w8 hoa8.src.ints.2 (by omega) (by simp; omega)).mono ?_
            rintro e w9 ⟨rfl, hb9⟩
            have zw9 := hb9.size
            have hR := hR8.below hb9
            have hF := hF8.below hb9
            have hO := hO8.below hb9
            have hB := hB8.trans (hb9.mono hB8.size)
            have HOA : Hid (ownI w9 (w.heap.size + 2) (.slice Tv tags.length cv) tags) := hoa8.far hb9
            clear hR8 hF8 hO8 hB8 hoa8 hb9
            have r0 := hR.2 0 _ rfl
            have f0 := hF.2 0
            have p0 := hO.2 0 _ rfl
            have r1 := hR.2 1 _ rfl
            have f1 := hF.2 1
            have p1 := hO.2 1 _ rfl
            have r2 := hR.2 2 _ rfl
            have f2 := hF.2 2
            have p2 := hO.2 2 _ rfl
            have r3 := hR.2 3 _ rfl
            have f3 := hF.2 3
            have p3 := hO.2 3 _ rfl
            have r4 := hR.2 4 _ rfl
            have f4 := hF.2 4
            have p4 := hO.2 4 _ rfl
            cases hfr : frameB dd ss tags (33024) (s.extract (a + 2).toNat s.size)
            · have HO : Hid (rdOk s = false) := HX.out.1.trans hfr
              have HE : Hid (rdFr s = ⟨0, 0, [], 0, ⟨#[]⟩⟩) := rdFr_no HO.out
              clear HX hfr
              go_wp2
              refine bodyPost_ret (v := .tuple #[.agg #[.int .i64 0, .int .i64 0, .slice none 0 0, .int .i64 0, .string ⟨#[]⟩], .bool false]) ?_ rfl ?_
              · simp [results, Try.results7, go_sem, r0, r1, r2, r3, r4]
              · rw [HE.out, HO.out]; exact fin.out _ (by go_grown)
            · have HO : Hid (rdOk s = true) := HX.out.1.trans hfr
              have HE : Hid (rdFr s = ⟨dd, ss, tags, 33024, s.extract (a + 2).toNat s.size⟩) := HX.out.2 HO.out
              clear HX hfr fin
              go_wp2
              refine bodyPost_ret (v := .tuple #[.agg #[.int .i64 dd, .int .i64 ss, .slice Tv tags.length cv, .int .i64 (33024), .string (s.extract (a + 2).toNat s.size)], .bool true]) ?_ rfl ?_
              · simp [results, Try.results7, go_sem, r0, r1, r2, r3, r4]
              · rw [HE.out, HO.out]
                refine ⟨_, rfl, ?_, ?_⟩
                · show ownI _ w.heap.size _ tags
                  refine ownI.mono (B := w.heap.size + 2) ?_ (by omega)
                  iterate 5 (refine ownI.low ?_ (by omega) _)
                  exact HOA.out
                · go_grown
        · have hk' : (numAt s a 2 == 33024) = false := by simpa using hk
          have HX0 := rd_exit (s := s) (tags := tags) (a := a) (by omega) hg14 HG.out (fun h => hk h.2.1)
          have HX : Hid (rdOk s = frameB dd ss tags (numAt s a 2) (s.extract (a + 2).toNat s.size) ∧ (rdOk s = true → rdFr s = ⟨dd, ss, tags, numAt s a 2, s.extract (a + 2).toNat s.size⟩)) := by rw [← HDD.out, ← HSS.out]; exact HX0
          clear HX0 HG hk
          go_wp2_with (go_at_call 27; refine (CAt.out _ _ _ (by omega) (by omega) (by omega) (by omega)).mono ?_; rintro e wq ⟨rfl, hq⟩; rw [hq]; clear hq wq)
          obtain ⟨w8, hw8⟩ : ∃ u, u = (wr.setCell ⟨w.heap.size + 1, 3, none⟩ (.int .i64 (numAt s a 2))).setCell ⟨w.heap.size + 1, 4, none⟩ (.string (s.extract (a + 2).toNat s.size)) := ⟨_, rfl⟩
          rw [← hw8]
          have zw8 : w8.heap.size = wr.heap.size := by rw [hw8]; simp
          have hR8 : Box w8 w.heap.size fr0.toList := by rw [hw8]; exact (hR.other (by omega) _).other (by omega) _
          have hF8 : Free w8 w.heap.size := by rw [hw8]; exact (hF.set _ _).set _ _
          have hO8 : Box w8 (w.heap.size + 1) (frv dd ss Tv tags.length cv (numAt s a 2) (s.extract (a + 2).toNat s.size)) := by rw [hw8]; exact (hO.set 3 _).set 4 _
          have hB8 : Below w.heap.size w w8 := by rw [hw8]; exact (hB.setCell (by simp) _).setCell (by simp) _
          have hoa8 : ownI w8 (w.heap.size + 2) (.slice Tv tags.length cv) tags := by rw [hw8]; exact (hown.low (by omega) _).low (by omega) _
          clear hR hF hO hB hown hG hw8 p0 p1 p2 p3 p4 q3 q4
          refine (s_FrameOk dd ss Tv cv tags (numAt s a 2) (s.extract (a + 2).toNat s.size) w8 hoa8.src.ints.2 (by omega) (by simp; omega)).mono ?_
          rintro e w9 ⟨rfl, hb9⟩
          have zw9 := hb9.size
          have hR := hR8.below hb9
          have hF := hF8.below hb9
          have hO := hO8.below hb9
          have hB := hB8.trans (hb9.mono hB8.size)
          have HOA : Hid (ownI w9 (w.heap.size + 2) (.slice Tv tags.length cv) tags) := hoa8.far hb9
          clear hR8 hF8 hO8 hB8 hoa8 hb9
          have r0 := hR.2 0 _ rfl
          have f0 := hF.2 0
          have p0 := hO.2 0 _ rfl
          have r1 := hR.2 1 _ rfl
          have f1 := hF.2 1
          have p1 := hO.2 1 _ rfl
          have r2 := hR.2 2 _ rfl
          have f2 := hF.2 2
          have p2 := hO.2 2 _ rfl
          have r3 := hR.2 3 _ rfl
          have f3 := hF.2 3
          have p3 := hO.2 3 _ rfl
          have r4 := hR.2 4 _ rfl
          have f4 := hF.2 4
          have p4 := hO.2 4 _ rfl
          cases hfr : frameB dd ss tags (numAt s a 2) (s.extract (a + 2).toNat s.size)
          · have HO : Hid (rdOk s = false) := HX.out.1.trans hfr
            have HE : Hid (rdFr s = ⟨0, 0, [], 0, ⟨#[]⟩⟩) := rdFr_no HO.out
            clear HX hfr
            go_wp2
            refine bodyPost_ret (v := .tuple #[.agg #[.int .i64 0, .int .i64 0, .slice none 0 0, .int .i64 0, .string ⟨#[]⟩], .bool false]) ?_ rfl ?_
            · simp [results, Try.results7, go_sem, r0, r1, r2, r3, r4]
            · rw [HE.out, HO.out]; exact fin.out _ (by go_grown)
          · have HO : Hid (rdOk s = true) := HX.out.1.trans hfr
            have HE : Hid (rdFr s = ⟨dd, ss, tags, numAt s a 2, s.extract (a + 2).toNat s.size⟩) := HX.out.2 HO.out
            clear HX hfr fin
            go_wp2
            refine bodyPost_ret (v := .tuple #[.agg #[.int .i64 dd, .int .i64 ss, .slice Tv tags.length cv, .int .i64 (numAt s a 2), .string (s.extract (a + 2).toNat s.size)], .bool true]) ?_ rfl ?_
            · simp [results, Try.results7, go_sem, r0, r1, r2, r3, r4]
            · rw [HE.out, HO.out]
              refine ⟨_, rfl, ?_, ?_⟩
              · show ownI _ w.heap.size _ tags
                refine ownI.mono (B := w.heap.size + 2) ?_ (by omega)
                iterate 5 (refine ownI.low ?_ (by omega) _)
                exact HOA.out
              · go_grown
      · have h6' : ¬ a + 6 ≤ (s.size : Int) := h6
        have HX0 := rd_exit (s := s) (tags := tags) (a := a) (by omega) hg14 HG.out (fun h => h6 h.1)
        have HX : Hid (rdOk s = frameB dd ss tags (numAt s a 2) (s.extract (a + 2).toNat s.size) ∧ (rdOk s = true → rdFr s = ⟨dd, ss, tags, numAt s a 2, s.extract (a + 2).toNat s.size⟩)) := by rw [← HDD.out, ← HSS.out]; exact HX0
        clear HX0 HG
        go_wp2_with (go_at_call 27; refine (CAt.out _ _ _ (by omega) (by omega) (by omega) (by omega)).mono ?_; rintro e wq ⟨rfl, hq⟩; rw [hq]; clear hq wq)
        obtain ⟨w8, hw8⟩ : ∃ u, u = (wr.setCell ⟨w.heap.size + 1, 3, none⟩ (.int .i64 (numAt s a 2))).setCell ⟨w.heap.size + 1, 4, none⟩ (.string (s.extract (a + 2).toNat s.size)) := ⟨_, rfl⟩
        rw [← hw8]
        have zw8 : w8.heap.size = wr.heap.size := by rw [hw8]; simp
        have hR8 : Box w8 w.heap.size fr0.toList := by rw [hw8]; exact (hR.other (by omega) _).other (by omega) _
        have hF8 : Free w8 w.heap.size := by rw [hw8]; exact (hF.set _ _).set _ _
        have hO8 : Box w8 (w.heap.size + 1) (frv dd ss Tv tags.length cv (numAt s a 2) (s.extract (a + 2).toNat s.size)) := by rw [hw8]; exact (hO.set 3 _).set 4 _
        have hB8 : Below w.heap.size w w8 := by rw [hw8]; exact (hB.setCell (by simp) _).setCell (by simp) _
        have hoa8 : ownI w8 (w.heap.size + 2) (.slice Tv tags.length cv) tags := by rw [hw8]; exact (hown.low (by omega) _).low (by omega) _
        clear hR hF hO hB hown hG hw8 p0 p1 p2 p3 p4 q3 q4
        refine (s_FrameOk dd ss Tv cv tags (numAt s a 2) (s.extract (a + 2).toNat s.size) w8 hoa8.src.ints.2 (by omega) (by simp; omega)).mono ?_
        rintro e w9 ⟨rfl, hb9⟩
        have zw9 := hb9.size
        have hR := hR8.below hb9
        have hF := hF8.below hb9
        have hO := hO8.below hb9
        have hB := hB8.trans (hb9.mono hB8.size)
        have HOA : Hid (ownI w9 (w.heap.size + 2) (.slice Tv tags.length cv) tags) := hoa8.far hb9
        clear hR8 hF8 hO8 hB8 hoa8 hb9
        have r0 := hR.2 0 _ rfl
        have f0 := hF.2 0
        have p0 := hO.2 0 _ rfl
        have r1 := hR.2 1 _ rfl
        have f1 := hF.2 1
        have p1 := hO.2 1 _ rfl
        have r2 := hR.2 2 _ rfl
        have f2 := hF.2 2
        have p2 := hO.2 2 _ rfl
        have r3 := hR.2 3 _ rfl
        have f3 := hF.2 3
        have p3 := hO.2 3 _ rfl
        have r4 := hR.2 4 _ rfl
        have f4 := hF.2 4
        have p4 := hO.2 4 _ rfl
        cases hfr : frameB dd ss tags (numAt s a 2) (s.extract (a + 2).toNat s.size)
        · have HO : Hid (rdOk s = false) := HX.out.1.trans hfr
          have HE : Hid (rdFr s = ⟨0, 0, [], 0, ⟨#[]⟩⟩) := rdFr_no HO.out
          clear HX hfr
          go_wp2
          refine bodyPost_ret (v := .tuple #[.agg #[.int .i64 0, .int .i64 0, .slice none 0 0, .int .i64 0, .string ⟨#[]⟩], .bool false]) ?_ rfl ?_
          · simp [results, Try.results7, go_sem, r0, r1, r2, r3, r4]
          · rw [HE.out, HO.out]; exact fin.out _ (by go_grown)
        · have HO : Hid (rdOk s = true) := HX.out.1.trans hfr
          have HE : Hid (rdFr s = ⟨dd, ss, tags, numAt s a 2, s.extract (a + 2).toNat s.size⟩) := HX.out.2 HO.out
          clear HX hfr fin
          go_wp2
          refine bodyPost_ret (v := .tuple #[.agg #[.int .i64 dd, .int .i64 ss, .slice Tv tags.length cv, .int .i64 (numAt s a 2), .string (s.extract (a + 2).toNat s.size)], .bool true]) ?_ rfl ?_
          · simp [results, Try.results7, go_sem, r0, r1, r2, r3, r4]
          · rw [HE.out, HO.out]
            refine ⟨_, rfl, ?_, ?_⟩
            · show ownI _ w.heap.size _ tags
              refine ownI.mono (B := w.heap.size + 2) ?_ (by omega)
              iterate 5 (refine ownI.low ?_ (by omega) _)
              exact HOA.out
            · go_grown
end Go.Proofs.Ytlpapncgcgllfaa
