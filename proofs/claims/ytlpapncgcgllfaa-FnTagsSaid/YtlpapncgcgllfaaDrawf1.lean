/-
  Contracts of frames that are drawn.
-/
import Derived.Test.YtlpapncgcgllfaaRead5
import Derived.Test.YtlpapncgcgllfaaLawBase
import Derived.Test.YtlpapncgcgllfaaIps4
namespace Go.Proofs.Ytlpapncgcgllfaa
open Go.RowKit Go.PlainAid
theorem step_append_n {w : World} {ops : Array Oper} {o : Oper} {a : Act} {K : Act → World → Prop} {Q : Exit → Act → World → Prop} {E : Prop} (hgd : o.guard = none) (s x : Operand)
    (ho : o.op = .call { callee := .builtin .append, args := #[s, x], argTypes := #[22, 22] })
    (B : Nat) (v : Value) (l : List Int) (hs : a.eval s = v) (hown : ownI w B v l)
    (c : Int) (hx : a.eval x = .slice (some ⟨w.heap.size, 0, none⟩) 1 1) (hl : l.length ≤ 1099511627776) (hB : B ≤ w.heap.size)
    (h : ∀ v' w', ownI w' B v' (l ++ [c]) → Below B w w' → K (a.put o.dst v') w') :
    if Region.wanted o (yielded ops a.tmps) = true then Oper.wp Try.prog o a (w.alloc (.cells #[.int .i64 c] 2)) K Q else E := by
  have hw : Region.wanted o (yielded ops a.tmps) = true := by simp [Region.wanted, hgd]
  rw [if_pos hw]
  obtain ⟨i0, hi, hz0, hz1, hz2⟩ := info_parts Try.infoI
  have hcs : ∀ j u, [Value.int .i64 c][j]? = some u → (w.alloc (.cells #[.int .i64 c] 2)).cell? ((⟨w.heap.size, 0, none⟩ : Addr).add j) = some u := by
    intro j u hj
    match j, hj with
    | 0, hj => simp at hj; subst hj; simp [Addr.add]
  have hB' : B ≤ (w.alloc (.cells #[.int .i64 c] 2)).heap.size := by simp; omega
  refine wp_append_own _ s x 22 ho B 2 i0 (.int .i64 0) 1 8 Try.underlying22 hi hz0 hz1 hz2 rfl (by decide) v l.length (icells l) hs (ownI.alloc hown _) ⟨w.heap.size, 0, none⟩ 1 1 [.int .i64 c] hx rfl hcs ?_ (by unfold maxLen; omega) (by omega) hB' ?_
  · intro u hu; simp at hu; subst hu; rfl
  · intro v' w' h2 h3 _
    refine h v' w' ?_ (((Below.refl B w).alloc hB _).grown h3 hB' fun k hk => (World.ownsRow.lt hown k hk).1)
    unfold ownI
    have e3 : icells (l ++ [c]) = icells l ++ [.int .i64 c] := by simp [icells]
    rw [e3]; simpa using h2
theorem Box.only {w w' : World} {b g : Nat} {vs : List Value} (h : Box w g vs) (k : Only b w w') (hg : g ≠ b) : Box w' g vs :=
  ⟨Nat.lt_of_lt_of_le h.1 k.size, fun i v hv => (k.cell h.1 hg).trans (h.2 i v hv)⟩
theorem Free.only {w w' : World} {b g : Nat} (h : Free w g) (k : Only b w w') (hg : g ≠ b) : Free w' g :=
  ⟨Nat.lt_of_lt_of_le h.1 k.size, fun j => (World.frozen?_of_block (w := w) (a := ⟨g, j, none⟩) (k.block g h.1 (by simp; exact hg))).trans (h.2 j)⟩

set_option maxRecDepth 100000 in
set_option maxHeartbeats 400000 in
theorem r_mac (b : Nat) (C : Option Addr) (len cap : Nat) (w : World) (h : RdI w b C len cap) :
    Calls Try.prog 55 #[.pointer (some ⟨b, 0, none⟩)] w fun e w' => ∃ x : Int, e = .returned (.int .i64 x) ∧ RdI w' b C len cap ∧ Only b w w' := by
  go_enter Try.func55, Try.ntmps55
  go_wp2_with fail
  refine (r_once b C len cap _ _ (by omega) (by omega) h).mono ?_
  rintro e w1 ⟨x, rfl, hR1, hO1⟩
  have hlt := hR1.lt
  cases x
  · go_wp2_with fail
    refine (r_below b C len cap _ _ (by omega) hR1).mono ?_
    rintro e w2 ⟨y, rfl, hy0, hy1, hR2, hO2⟩
    go_wp2
    go_ret
    exact ⟨_, rfl, hR2, hO1.trans hO2⟩
  · go_wp2_with fail
    refine (r_below b C len cap _ _ (by omega) (hR1.alloc _)).mono ?_
    rintro e w2 ⟨y, rfl, hy0, hy1, hR2, hO2⟩
    have hc := fun j => hO2.cell (g := w1.heap.size) (j := j) (by simp) (by omega)
    have k0 := hc 0
    have k1 := hc 1
    have k2 := hc 2
    simp at k0 k1 k2
    clear hc
    have hy : y = 0 ∨ y = 1 ∨ y = 2 := by omega
    clear hy0 hy1
    rcases hy with rfl | rfl | rfl
    all_goals
      go_wp2
      go_ret
      exact ⟨_, rfl, hR2, (hO1.alloc _).trans hO2⟩

set_option maxRecDepth 100000 in
set_option maxHeartbeats 6400000 in
theorem r_frame (b : Nat) (C : Option Addr) (len cap : Nat) (w : World) (h : RdI w b C len cap) :
    Calls Try.prog 37 #[.pointer (some ⟨b, 0, none⟩)] w fun e w' => ∃ (d s : Int) (v : Value) (l : List Int) (t : Int) (x : ByteArray), e = .returned (.agg #[.int .i64 d, .int .i64 s, v, .int .i64 t, .string x]) ∧ ownI w' w.heap.size v l ∧ l.length ≤ 2 ∧ x.size ≤ 65600 ∧ RdI w' b C len cap ∧ Only b w w' := by
  have hlt := h.lt
  have hR0 := Box.new w fr0 24
  have hF0 := Free.new w fr0 24
  have hO0 : Only b w (w.alloc (.cells fr0 24)) := (Only.refl b w).alloc _
  have hd0 := h.alloc (.cells fr0 24)
  have hne1 : w.heap.size ≠ b := by omega
  go_enter Try.func37, Try.ntmps37
  go_wp2_with fail
  refine (r_mac b C len cap _ hd0).mono ?_
  rintro e w1 ⟨dd, rfl, hd1, hO1⟩
  go_wp2_with fail
  refine (r_mac b C len cap _ hd1).mono ?_
  rintro e w2 ⟨ss, rfl, hd2, hO2⟩
  replace hR0 := (hR0.only hO1 hne1).only hO2 hne1
  replace hF0 := (hF0.only hO1 hne1).only hO2 hne1
  replace hO0 := hO0.trans (hO1.trans hO2)
  have hlt2 := hd2.lt
  clear hO1 hO2 hd0 hd1
  go_wp2_with fail
  have hbA := (Below.refl _ w2).alloc (Nat.le_refl _) (.cells #[.int .i64 2048, .int .i64 2054, .int .i64 34525, .int .i64 1536, .int .i64 65535] 2)
  refine (r_below b C len cap _ _ (by omega) (hd2.alloc _)).mono ?_
  rintro e w3 ⟨y, rfl, hy0, hy1, hd3, hO3⟩
  have hc := fun j => hO3.cell (g := w2.heap.size) (j := j) (by simp) (by omega)
  have k0 := hc 0
  have k1 := hc 1
  have k2 := hc 2
  have k3 := hc 3
  have k4 := hc 4
  simp at k0 k1 k2 k3 k4
  clear hc
  replace hR0 := (hR0.below hbA).only hO3 hne1
  replace hF0 := (hF0.below hbA).only hO3 hne1
  replace hO0 := (hO0.alloc _).trans hO3
  clear hO3 hbA hd2 hlt2
  obtain ⟨ty, hty⟩ : ∃ ty : Int, y = 0 ∧ ty = 2048 ∨ y = 1 ∧ ty = 2054 ∨ y = 2 ∧ ty = 34525 ∨ y = 3 ∧ ty = 1536 ∨ y = 4 ∧ ty = 65535 := by
    have hy : y = 0 ∨ y = 1 ∨ y = 2 ∨ y = 3 ∨ y = 4 := by omega
    rcases hy with rfl | rfl | rfl | rfl | rfl
    · exact ⟨2048, by simp⟩
    · exact ⟨2054, by simp⟩
    · exact ⟨34525, by simp⟩
    · exact ⟨1536, by simp⟩
    · exact ⟨65535, by simp⟩
  have kk : w3.cell? ⟨w2.heap.size, y.toNat, none⟩ = some (.int .i64 ty) := by
    rcases hty with ⟨rfl, rfl⟩ | ⟨rfl, rfl⟩ | ⟨rfl, rfl⟩ | ⟨rfl, rfl⟩ | ⟨rfl, rfl⟩
    · exact k0
    · exact k1
    · exact k2
    · exact k3
    · exact k4
  clear k0 k1 k2 k3 k4 hty
  obtain ⟨Y, rfl⟩ := Int.eq_ofNat_of_zero_le hy0
  have hy5 : (Y : Int) < 5 := by omega
  rw [Int.toNat_natCast] at kk
  clear hy0 hy1
  have hlt3 := hd3.lt
  have hlR : w.heap.size < w3.heap.size := hR0.1
  have hU := Box.new w3 #[.int .i64 dd, .int .i64 ss, .slice none 0 0, .int .i64 ty, .string ⟨#[]⟩] 24
  have hG := Free.new w3 #[.int .i64 dd, .int .i64 ss, .slice none 0 0, .int .i64 ty, .string ⟨#[]⟩] 24
  have hbB := (Below.refl _ w3).alloc (Nat.le_refl _) (.cells #[.int .i64 dd, .int .i64 ss, .slice none 0 0, .int .i64 ty, .string ⟨#[]⟩] 24)
  replace hR0 := hR0.below hbB
  replace hF0 := hF0.below hbB
  replace hO0 := hO0.alloc (.cells #[.int .i64 dd, .int .i64 ss, .slice none 0 0, .int .i64 ty, .string ⟨#[]⟩] 24)
  replace hd3 := hd3.alloc (.cells #[.int .i64 dd, .int .i64 ss, .slice none 0 0, .int .i64 ty, .string ⟨#[]⟩] 24)
  go_wp2_with fail
  have hsg : w3.heap.size + 1 ≤ (w3.alloc (.cells #[.int .i64 dd, .int .i64 ss, .slice none 0 0, .int .i64 ty, .string ⟨#[]⟩] 24)).heap.size := by simp
  clear hbB kk
  generalize w3.alloc (.cells #[.int .i64 dd, .int .i64 ss, .slice none 0 0, .int .i64 ty, .string ⟨#[]⟩] 24) = w4 at *
  generalize w3.heap.size = g at *
  clear w3
  have hne2 : g ≠ b := by omega
  have hne3 : g ≠ w.heap.size := by omega
  refine (r_below b C len cap _ _ (by omega) hd3).mono ?_
  rintro e w5 ⟨n, rfl, hn0, hn1, hd5, hO5⟩
  obtain ⟨N, rfl⟩ := Int.eq_ofNat_of_zero_le hn0
  have hN : N ≤ 2 := by omega
  replace hR0 := hR0.only hO5 hne1
  replace hF0 := hF0.only hO5 hne1
  replace hU := hU.only hO5 hne2
  replace hG := hG.only hO5 hne2
  replace hO0 := hO0.trans hO5
  replace hsg := Nat.le_trans hsg hO5.size
  clear hO5 hd3 hn0 hn1
  go_wp2_with fail
  go_loopw [4] (fun i wr => ∃ (k : Nat) (tags : List Int) (v : Value), i = .int .i64 (k : Int) ∧ tags.length + k ≤ 2 ∧ ownI wr (g + 1) v tags ∧ Box wr g [.int .i64 dd, .int .i64 ss, v, .int .i64 ty, .string ⟨#[]⟩] ∧ Free wr g ∧ Box wr w.heap.size fr0.toList ∧ Free wr w.heap.size ∧ RdI wr b C len cap ∧ Only b w wr ∧ g + 1 ≤ wr.heap.size) (fun i _ => (intOf i).toNat)
  case atStart => exact ⟨N, [], _, rfl, by simpa using hN, ownI.nil _ _, hU, hG, hR0, hF0, hd5, hO0, hsg⟩
  case round =>
    clear hU hG hR0 hF0 hd5 hO0 hsg
    obtain ⟨k, tags, v, rfl, hk2, hown, hU, hG, hR0, hF0, hd5, hO0, hsg⟩ := hrel
    obtain ⟨Tv, cv, rfl⟩ := hown.form
    have p2 := hU.2 2 _ rfl
    have u9 := hU.1
    by_cases hk : 0 < k
    · have hk' : (0 : Int) < (k : Int) := by omega
      have q2 := hG.2 2
      go_wp2_with fail
      go_region_law (first
        | (refine step_append_n rfl _ _ rfl (g + 1) _ _ rfl hown6 tg rfl (by omega) hs6 ?_; intro va w7 hoa hba'; have hU7 := hU6.belowB hba' (by omega); have hG7 := hG6.belowB hba' (by omega); have hR7 := hR6.belowB hba' (by omega); have hF7 := hF6.belowB hba' (by omega); have hd7 := hd6.kept (hba'.mono (by omega)); have hO7 := hO6.beyond (by omega) hba'; have hs7 : g + 1 ≤ w7.heap.size := Nat.le_trans hs6 hba'.size; obtain ⟨Tw, cw, rfl⟩ := hoa.form; have HOA : Hid (ownI w7 (g + 1) (.slice Tw (tags ++ [tg]).length cw) (tags ++ [tg])) := hoa; have t2 := hU7.2 2 _ rfl; have v2 := hG7.2 2; clear hoa hba')
        | (go_simp; go_at_call 56; refine (r_u16 b C len cap _ hd5.drew).mono ?_; rintro e w6 ⟨tg, rfl, _, _, hd6, hOx⟩; have hU6 := hU.drew.only hOx hne2; have hG6 := hG.drew.only hOx hne2; have hR6 := hR0.drew.only hOx hne1; have hF6 := hF0.drew.only hOx hne1; have hown6 := ownI.by hown.drew hOx (by omega); have hO6 := hO0.drew.trans hOx; have hs6 := Nat.le_trans hsg hOx.size; clear hOx; have o2 := hU6.2 2 _ rfl; have o9 := hU6.1))
      all_goals
        have hlq : (tags ++ [tg]).length = tags.length + 1 := by simp
        have HOB := HOA.out
        rw [hlq] at HOB
        have HOC : Hid (ownI w7 (g + 1) (.slice Tw (tags.length + 1) cw) (tags ++ [tg])) := HOB
        clear HOA HOB hlq hown hU hG hR0 hF0 hO0 p2 q2
        go_wp2
        go_roundw
        case rel => exact ⟨k - 1, tags ++ [tg], .slice Tw (tags.length + 1) cw, by rw [show ((k - 1 : Nat) : Int) = (k : Int) - 1 by omega], by simp; omega, HOC.out.low (by omega) _, hU7.set 2 _, hG7.set _ _, hR7.other (by omega) _, hF7.set _ _, hd7.kept ((Below.refl _ _).setCell (by simp; omega) _), hO7.beyond (Nat.le_refl _) ((Below.refl _ _).setCell (by simp; omega) _), by simpa using hs7⟩
        case measure => simp [intOf]; omega
    · have hk0 : k = 0 := by omega
      subst hk0
      clear p2
      go_wp2_with fail
      refine (r_below b C len cap _ _ (by omega) hd5).mono ?_
      rintro e w6 ⟨y, rfl, hy0, hy1, hd6, hOx⟩
      replace hU := hU.only hOx hne2
      replace hG := hG.only hOx hne2
      replace hR0 := hR0.only hOx hne1
      replace hF0 := hF0.only hOx hne1
      replace hown := ownI.by hown hOx (by omega)
      replace hO0 := hO0.trans hOx
      clear hOx hd5 u9
      have hy : y = 0 ∨ y = 1 ∨ 1 < y := by omega
      clear hy0 hy1
      rcases hy with rfl | rfl | hy
      · go_wp2_with fail
        refine (r_bytes b C len cap _ _ (by omega) (by omega) hd6).mono ?_
        rintro e w8 ⟨dl, rfl, hdl, hd8, hOx⟩
        have hsx : (str dl).size = dl.length := str_size dl
        have hU8 := hU.only hOx hne2
        have hG8 := hG.only hOx hne2
        have hR8 := hR0.only hOx hne1
        have hF8 := hF0.only hOx hne1
        have hown8 := ownI.by hown hOx (by omega)
        have hO8 := hO0.trans hOx
        clear hOx hU hG hR0 hF0 hown hO0
        have p0 := hU8.2 0 _ rfl
        have p1 := hU8.2 1 _ rfl
        have p2 := hU8.2 2 _ rfl
        have p3 := hU8.2 3 _ rfl
        have p4 := hU8.2 4 _ rfl
        have q4 := hG8.2 4
        have r0 := hR8.2 0 _ rfl
        have r1 := hR8.2 1 _ rfl
        have r2 := hR8.2 2 _ rfl
        have r3 := hR8.2 3 _ rfl
        have r4 := hR8.2 4 _ rfl
        have f0 := hF8.2
        have u9 := hU8.1
        go_wp2
        refine bodyPost_ret (v := .agg #[.int .i64 dd, .int .i64 ss, .slice Tv tags.length cv, .int .i64 ty, .string (str dl)]) ?_ rfl ⟨dd, ss, _, tags, ty, (str dl), rfl, ?_, by omega, by rw [hsx]; omega, ?_, ?_⟩
        · simp [results, Try.results37, go_sem, r0, r1, r2, r3, r4]
        · refine ownI.mono (B := g + 1) ?_ (by omega)
          iterate 6 (refine ownI.low ?_ (by omega) _)
          exact hown8
        · refine hd8.kept (Below.mono (B := w.heap.size) ?_ (by omega))
          exact ((((((Below.refl w.heap.size _).setCell (by simp; omega) _).setCell (by simp) _).setCell (by simp) _).setCell (by simp) _).setCell (by simp) _).setCell (by simp) _
        · refine hO8.beyond (Nat.le_refl _) ?_
          exact ((((((Below.refl w.heap.size _).setCell (by simp; omega) _).setCell (by simp) _).setCell (by simp) _).setCell (by simp) _).setCell (by simp) _).setCell (by simp) _
      · go_wp2_with fail
        refine (r_below b C len cap _ _ (by omega) hd6).mono ?_
        rintro e w7 ⟨m, rfl, hm0, hm1, hd7, hOx⟩
        obtain ⟨M, rfl⟩ := Int.eq_ofNat_of_zero_le hm0
        have hU7 := hU.only hOx hne2
        have hG7 := hG.only hOx hne2
        have hR7 := hR0.only hOx hne1
        have hF7 := hF0.only hOx hne1
        have hown7 := ownI.by hown hOx (by omega)
        have hO7 := hO0.trans hOx
        clear hOx hU hG hR0 hF0 hown hO0
        have hlt7 := hd7.lt
        go_wp2_with (at_make; refine wpList_make_bytes rfl _ _ rfl _ _ _ _ M rfl rfl (by omega) (by omega) (by omega) ?_; intro w8 hownB hbC; have hrl : (List.replicate M (0 : UInt8)).length ≤ 65600 := (by rw [List.length_replicate]; omega); generalize List.replicate M (0 : UInt8) = rl at hownB hrl; have hU8 := hU7.below hbC; have hG8 := hG7.below hbC; have hR8 := hR7.below hbC; have hF8 := hF7.below hbC; have hown8 := hown7.far hbC; have hd8 := hd7.kept (hbC.mono (by omega)); have hO8 := hO7.beyond hO7.size hbC; have hstr := run_string_own hownB; have p0 := hU8.2 0 _ rfl; have p1 := hU8.2 1 _ rfl; have p2 := hU8.2 2 _ rfl; have p3 := hU8.2 3 _ rfl; have p4 := hU8.2 4 _ rfl; have q4 := hG8.2 4; have r0 := hR8.2 0 _ rfl; have r1 := hR8.2 1 _ rfl; have r2 := hR8.2 2 _ rfl; have r3 := hR8.2 3 _ rfl; have r4 := hR8.2 4 _ rfl; have f0 := hF8.2; have u9 := hU8.1)
        refine bodyPost_ret (v := .agg #[.int .i64 dd, .int .i64 ss, .slice Tv tags.length cv, .int .i64 ty, .string (str rl)]) ?_ rfl ⟨dd, ss, _, tags, ty, (str rl), rfl, ?_, by omega, by rw [str_size]; exact hrl, ?_, ?_⟩
        · simp [results, Try.results37, go_sem, r0, r1, r2, r3, r4]
        · refine ownI.mono (B := g + 1) ?_ (by omega)
          iterate 6 (refine ownI.low ?_ (by omega) _)
          exact hown8
        · refine hd8.kept (Below.mono (B := w.heap.size) ?_ (by omega))
          exact ((((((Below.refl w.heap.size _).setCell (by simp; omega) _).setCell (by simp) _).setCell (by simp) _).setCell (by simp) _).setCell (by simp) _).setCell (by simp) _
        · refine hO8.beyond (Nat.le_refl _) ?_
          exact ((((((Below.refl w.heap.size _).setCell (by simp; omega) _).setCell (by simp) _).setCell (by simp) _).setCell (by simp) _).setCell (by simp) _).setCell (by simp) _
      · have y0 : (y == 0) = false := by simp; omega
        have y1 : (y == 1) = false := by simp; omega
        have p3 := hU.2 3 _ rfl
        have q3 := hG.2 3
        have u9 := hU.1
        have hltA := hd6.lt
        go_wp2_with fail
        clear p3 q3
        replace hU := hU.set 3 (.int .i64 2048)
        replace hG := hG.set ⟨g, 3, none⟩ (.int .i64 2048)
        replace hR0 := hR0.other (b' := g) (j := 3) hne3 (.int .i64 2048)
        replace hF0 := hF0.set ⟨g, 3, none⟩ (.int .i64 2048)
        replace hown := hown.low (b := g) (j := 3) (by omega) (.int .i64 2048)
        replace hd6 := hd6.kept (w' := w6.setCell ⟨g, 3, none⟩ (.int .i64 2048)) ((Below.refl _ w6).setCell (p := ⟨g, 3, none⟩) (by simp; omega) (.int .i64 2048))
        replace hO0 := hO0.beyond (Nat.le_refl _) ((Below.refl w.heap.size w6).setCell (p := ⟨g, 3, none⟩) (by simp; omega) (.int .i64 2048))
        generalize w6.setCell ⟨g, 3, none⟩ (.int .i64 2048) = wA at *
        refine (r_below b C len cap _ _ (by omega) hd6).mono ?_
        rintro e wB ⟨z1, rfl, hz0, hz1, hdB, hO1⟩
        go_wp2_with fail
        refine (r_below b C len cap _ _ (by omega) hdB).mono ?_
        rintro e wC ⟨z2, rfl, hz2, hz3, hdC, hO2⟩
        go_wp2_with fail
        refine (r_bytes b C len cap _ _ (by omega) (by omega) hdC).mono ?_
        rintro e wD ⟨dl, rfl, hdl, hdD, hO3⟩
        have hOx := hO1.trans (hO2.trans hO3)
        clear hO1 hO2 hO3 hdB hdC hd6
        have hsx : (str dl).size = dl.length := str_size dl
        replace hU := hU.only hOx hne2
        replace hG := hG.only hOx hne2
        replace hR0 := hR0.only hOx hne1
        replace hF0 := hF0.only hOx hne1
        replace hown := ownI.by hown hOx (by omega)
        replace hO0 := hO0.trans hOx
        clear hOx u9 hltA
        have hltD := hdD.lt
        have CIp : Hid (∀ (q : Int) (v : World), ∃ x : List UInt8, x.length ≤ 65600 ∧ Calls Try.prog 58 #[.agg #[.int .i64 0, .int .i64 0, .bool false, .bool false, .int .i64 0, .int .i64 9, .int .i64 17, .int .i64 7, .int .i64 q, .string ⟨#[]⟩, .string (str dl)]] v fun e w' => e = .returned (.string (str x)) ∧ Below v.heap.size v w') := fun q v => by
          refine ⟨ipText ⟨0, 0, false, false, 0, 9, 17, 7, q, ⟨#[]⟩, str dl⟩, ?_, s_IpBytes ⟨0, 0, false, false, 0, 9, 17, 7, q, ⟨#[]⟩, str dl⟩ v (by show (⟨#[]⟩ : ByteArray).size ≤ _; decide) (by show (str dl).size ≤ _; omega)⟩
          unfold ipText
          split
          · unfold ipBytes
            rw [List.length_append, ipHead_length, bl_length]
            show 20 + (⟨#[]⟩ : ByteArray).size + (str dl).size ≤ _
            have : (⟨#[]⟩ : ByteArray).size = 0 := by decide
            omega
          · simp
        go_wp2_with fail
        obtain ⟨x, hx, CX⟩ := CIp.out _ wD
        refine CX.mono ?_
        clear CIp CX
        rintro e w8 ⟨rfl, hbC⟩
        have hU8 := hU.below hbC
        have hG8 := hG.below hbC
        have hR8 := hR0.below hbC
        have hF8 := hF0.below hbC
        have hown8 := hown.far hbC
        have hd8 := hdD.kept (hbC.mono (by omega))
        have hO8 := hO0.beyond hO0.size hbC
        clear hbC hU hG hR0 hF0 hown hO0
        have p0 := hU8.2 0 _ rfl
        have p1 := hU8.2 1 _ rfl
        have p2 := hU8.2 2 _ rfl
        have p3 := hU8.2 3 _ rfl
        have p4 := hU8.2 4 _ rfl
        have q4 := hG8.2 4
        have r0 := hR8.2 0 _ rfl
        have r1 := hR8.2 1 _ rfl
        have r2 := hR8.2 2 _ rfl
        have r3 := hR8.2 3 _ rfl
        have r4 := hR8.2 4 _ rfl
        have f0 := hF8.2
        have u9 := hU8.1
        go_wp2
        refine bodyPost_ret (v := .agg #[.int .i64 dd, .int .i64 ss, .slice Tv tags.length cv, .int .i64 2048, .string (str x)]) ?_ rfl ⟨dd, ss, _, tags, 2048, (str x), rfl, ?_, by omega, by rw [str_size]; exact hx, ?_, ?_⟩
        · simp [results, Try.results37, go_sem, r0, r1, r2, r3, r4]
        · refine ownI.mono (B := g + 1) ?_ (by omega)
          iterate 6 (refine ownI.low ?_ (by omega) _)
          exact hown8
        · refine hd8.kept (Below.mono (B := w.heap.size) ?_ (by omega))
          exact ((((((Below.refl w.heap.size _).setCell (by simp; omega) _).setCell (by simp) _).setCell (by simp) _).setCell (by simp) _).setCell (by simp) _).setCell (by simp) _
        · refine hO8.beyond (Nat.le_refl _) ?_
          exact ((((((Below.refl w.heap.size _).setCell (by simp; omega) _).setCell (by simp) _).setCell (by simp) _).setCell (by simp) _).setCell (by simp) _).setCell (by simp) _
end Go.Proofs.Ytlpapncgcgllfaa
