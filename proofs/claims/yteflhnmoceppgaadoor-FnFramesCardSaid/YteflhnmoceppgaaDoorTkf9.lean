/-
  The law that frames are taken off as they were glued: its walk.
-/
import Derived.Test.YteflhnmoceppgaaDoorTkf8
import Derived.Test.YteflhnmoceppgaaDoorLawBase
namespace Go.Proofs.YteflhnmoceppgaaDoor
open Go.RowKit Go.PlainAid
theorem CellsAt.headT {w : World} {T : Option Addr} {l m : List ByteArray} (h : CellsAt w T (stF l)) (hp : m <+: l) : CellsAt w T (stF m) := by
  obtain ⟨r, rfl⟩ := hp
  cases m with
  | nil => exact .inl rfl
  | cons d m =>
    rcases h with h | ⟨g, off, h1, h2, h3⟩
    · simp [stF] at h
    · refine .inr ⟨g, off, h1, h2, fun j hj => ?_⟩
      have := h3 j (by rw [stF_app, List.length_append]; omega)
      rw [this, stF_app, List.getElem?_append_left hj]
theorem frCat_take (L : List ByteArray) (j : Nat) (h : j < L.length) : str (frCat (L.take j)) ++ str (frOf (bl L[j])) = str (frCat (L.take (j + 1))) := by
  rw [str_app, List.take_succ_eq_append_getElem h, frCat_app]
  simp [frCat]
theorem frCat_len (l : List ByteArray) (N : Nat) (hl : l.length ≤ N) (hf : ∀ d ∈ l, d.size ≤ 100000) : (frCat l).length ≤ N * 100008 := by
  induction l generalizing N with
  | nil => simp [frCat]
  | cons d l ih =>
    have hd := hf d (by simp)
    have : (frOf (bl d)).length = 8 + d.size := by
      unfold frOf; rw [bl_length, if_neg (by omega)]
      rw [List.length_append, List.length_append, be_length, bl_length]; rfl
    cases N with
    | zero => simp at hl
    | succ N =>
      have := ih N (by simpa using hl) (fun d hd => hf d (by simp [hd]))
      simp only [frCat, List.length_append]; omega
set_option maxRecDepth 100000 in
set_option maxHeartbeats 6400000 in
theorem walk_FnFrames (C : Option Addr) (len cap : Nat) (zs : List Int) (w : World) (w0 : IsRow .u8 w C len cap zs) (hT : CrcTab w) :
    Calls Tryd.prog 3 #[.slice C len cap] w fun e w' => e = .returned (.bool true) ∧ Below w.heap.size w w' := by
  have hl := row_len w0
  by_cases hz : 1048576 < len
  · go_enter Tryd.func3, Tryd.ntmps3
    go_wp2
    go_ret
    exact ⟨rfl, Below.refl _ _⟩
  · have hC := code_of_row w0 (by omega)
    clear w0
    have HT : Hid (∀ u : World, Below w.heap.size w u → CrcTab u) := fun u hu => hT.below hu
    have CI : Hid (∀ (s : ByteArray) (u : World), Below w.heap.size w u → s.size ≤ 1048576 → Calls Tryd.prog 6 #[.string s] u fun e w' => ∃ v, e = .returned (.tuple #[v, .int .i64 ((tkR s 0).2 : Int)]) ∧ ownV w' u.heap.size 9 1 v (tkR s 0).1.length (stF (tkR s 0).1) ∧ Below u.heap.size u w') := fun s u hu hs => i_TakeFrames s u hs (hT.below hu)
    have CF : Hid (∀ (s : ByteArray) (u : World), Below w.heap.size w u → s.size ≤ 1099511627776 → Calls Tryd.prog 9 #[.string s] u fun e w' => e = .returned (.string (str (frOf (bl s)))) ∧ Below u.heap.size u w') := fun s u hu hs => i_FrameOf s u hs (hT.below hu)
    clear hT HT
    go_enter Tryd.func3, Tryd.ntmps3
    go_wp2_with fail
    refine (big_no _ _ _ _ (by omega)).mono ?_
    rintro e w' ⟨rfl, hw'⟩
    rw [hw']
    clear hw' w'
    go_wp2_with fail
    refine (d_TakeFrames _ C len cap _ hC).mono ?_
    rintro e w1 ⟨s, rfl, hs, hB⟩
    have CS : Hid (∀ u : World, Calls Tryd.prog 7 #[.string s] u fun e w' => ∃ v, e = .returned (.tuple #[v, .int .i64 ((tkR s 0).2 : Int)]) ∧ ownV w' u.heap.size 9 1 v (tkR s 0).1.length (stF (tkR s 0).1) ∧ Below u.heap.size u w') := fun u => s_TakeFrames s u (by omega)
    have CIs := CI.out s
    have hLs := tkR_few s
    have hall := tkR_all s
    have hfit : Hid (∀ d ∈ (tkR s 0).1, d.size ≤ 100000) := tkF_fit (s.size + 1) s 0 (Nat.zero_le _)
    generalize (tkR s 0).1 = L at *
    generalize (tkR s 0).2 = N at *
    have hNs := hall.1
    have hA : Hid (str (frCat L) = s.extract 0 N) := by
      show _ = _
      rw [hall.2, ← str_bl s, str_extract, bl_str]; simp
    have hAz : (frCat L).length = N := by rw [hall.2, List.length_take, bl_length]; omega
    clear hall
    have hNi : ¬ s.size < N := by omega
    have hNd : decide (s.size < N) = false := decide_eq_false hNi
    have hNn : ((N : Int) != (N : Int)) = false := by simp
    go_wp2_with fail
    refine (CIs _ hB (by omega)).mono ?_
    rintro e w2 ⟨vL, rfl, hL, hX⟩
    obtain ⟨TL, cL, rfl⟩ := hL.form
    replace hB := hB.trans (hX.mono hB.size)
    clear hX CIs
    go_wp2_with fail
    refine (CS.out _).mono ?_
    rintro e w3 ⟨vW, rfl, hW, hX⟩
    obtain ⟨TW, cW, rfl⟩ := hW.form
    replace hL := hL.far hX
    replace hB := hB.trans (hX.mono hB.size)
    clear hX CS
    go_wp2_with fail
    refine (l_sameTexts _ _ _ _ L _ hL.reads.2 hW.reads.2 (by omega)).mono ?_
    rintro e w4 ⟨rfl, hX⟩
    replace hL := hL.far hX
    replace hB := hB.trans (hX.mono hB.size)
    clear hX hW
    go_wp2_with fail
    go_loopw [8, 9] (fun al i wr => ∃ j : Nat, j ≤ L.length ∧ al = .string (str (frCat (L.take j))) ∧ i = .int .i64 (j : Int) ∧ Below w.heap.size w wr ∧ Below w4.heap.size w4 wr) (fun _ i _ => ((L.length : Int) - intOf i).toNat)
    case atStart => exact ⟨0, Nat.zero_le _, rfl, rfl, hB, Below.refl _ _⟩
    case round =>
      obtain ⟨j, hj, rfl, rfl, hBr, hBq⟩ := hrel
      clear hB
      by_cases hlt : j < L.length
      · have hle := stF_len L
        rcases hL.reads.2 with h | ⟨g, off, rfl, hg, hc⟩
        · rw [h] at hle; simp at hle; omega
        · have hj1 : (j : Int) < (L.length : Int) := by omega
          have hcs := (hBq.cell (p := ⟨g, off + j, none⟩) hg).trans ((hc j (by omega)).trans (stF_at L j hlt))
          have hft : Hid (str (frCat (L.take j)) ++ str (frOf (bl L[j])) = str (frCat (L.take (j + 1)))) := frCat_take L j hlt
          have hdz := hfit.out L[j] (List.getElem_mem hlt)
          have CFd := CF.out L[j]
          have hs1 : (str (frCat (L.take j))).size ≤ 3400272 := by
            rw [str_size]
            have := frCat_len (L.take j) 34 (by rw [List.length_take]; omega) (fun d hd => hfit.out d (List.mem_of_mem_take hd))
            omega
          have hs2 : (str (frOf (bl L[j]))).size ≤ 100008 := by
            rw [str_size]
            have := frCat_len [L[j]] 1 (by simp) (fun d hd => by rw [List.mem_singleton.1 hd]; exact hdz)
            simpa [frCat] using this
          clear hc hle hL hA hAz hfit
          generalize L[j] = d at *
          generalize str (frOf (bl d)) = y at *
          generalize str (frCat (L.take j)) = al at *
          go_wp2_with fail
          refine (CFd _ hBr (by omega)).mono ?_
          rintro e w5 ⟨rfl, hX⟩
          go_wp2
          go_roundw
          case rel => exact ⟨j + 1, by omega, by rw [← hft.out], by go_num, hBr.trans (hX.mono hBr.size), hBq.trans (hX.mono hBq.size)⟩
          case measure => simp [intOf]; omega
      · have hje : j = L.length := by omega
        subst hje
        rw [List.take_length]
        replace hL := hL.far hBq
        have hC2 := hC.below hBr
        clear hBq hj hlt
        have hy1 : (str (frCat L)).size = N := by rw [str_size]; exact hAz
        have hRA : (tkR (str (frCat L)) 0).1 = L := by rw [tkR_cat L hfit.out]
        go_wp2_with fail
        refine (d_FrameOf _ C len cap _ hC2).mono ?_
        rintro e w5 ⟨t, rfl, ht, hX⟩
        replace hL := hL.far hX
        have hB := hBr.trans (hX.mono hBr.size)
        clear hX hBr hC2
        have hy2 : (str (frOf (bl t))).size = 8 + t.size := by
          rw [str_size]; unfold frOf; rw [bl_length, if_neg (by omega)]
          rw [List.length_append, List.length_append, be_length, bl_length]; rfl
        have HO : tkR (str (frCat L) ++ str (frOf (bl t))) 0 = (L ++ [t], N + (8 + t.size)) := by
          have e : str (frCat L) ++ str (frOf (bl t)) = str (frCat (L ++ [t])) := by rw [str_app, frCat_app]; simp [frCat]
          rw [e, tkR_cat (L ++ [t]) (fun d hd => by
            rcases List.mem_append.1 hd with h | h
            · exact hfit.out d h
            · rw [List.mem_singleton.1 h]; omega)]
          rw [frCat_app, List.length_append, hAz]
          simp only [frCat, List.append_nil]
          rw [← str_size, hy2]
        have CIo := fun u hu => CI.out (str (frCat L) ++ str (frOf (bl t))) u hu (by simp [hy1, hy2]; omega)
        rw [HO] at CIo
        have CIp : Hid (∀ u : World, Below w.heap.size w u → Calls Tryd.prog 6 #[.string (str (frCat L) ++ str (frOf (bl t)))] u fun e w' => ∃ v, e = .returned (.tuple #[v, .int .i64 ((N + (8 + t.size) : Nat) : Int)]) ∧ ownV w' u.heap.size 9 1 v (L ++ [t]).length (stF (L ++ [t])) ∧ Below u.heap.size u w') := CIo
        clear CIo
        have CFt : Hid (∀ u : World, Below w.heap.size w u → Calls Tryd.prog 9 #[.string t] u fun e w' => e = .returned (.string (str (frOf (bl t)))) ∧ Below u.heap.size u w') := fun u hu => CF.out t u hu (by omega)
        have hAt : Hid (((str (frCat L)).toList == (s.extract 0 N).toList) = true) := by show _ = _; rw [hA.out]; simp
        clear HO hAz hfit CF hA
        generalize str (frOf (bl t)) = y at *
        generalize str (frCat L) = A at *
        go_wp2_with fail
        refine (CFt.out _ hB).mono ?_
        rintro e w6 ⟨rfl, hX⟩
        replace hL := hL.far hX
        replace hB := hB.trans (hX.mono hB.size)
        clear hX
        go_wp2_with fail
        refine (CIp.out _ hB).mono ?_
        rintro e w7 ⟨vO, rfl, hO, hX⟩
        obtain ⟨TO, cO, rfl⟩ := hO.form
        replace hL := hL.far hX
        replace hB := hB.trans (hX.mono hB.size)
        clear hX CIp
        obtain ⟨k, hk⟩ : ∃ k : Nat, k = len % (N + 1) := ⟨_, rfl⟩
        have hkN : k ≤ N := by have := Nat.mod_lt len (show N + 1 > 0 by omega); omega
        have hmod : (len : Int).tmod ((N : Int) + 1) = (k : Int) := by
          rw [hk]
          show Int.tmod (Int.ofNat len) (Int.ofNat (N + 1)) = Int.ofNat (len % (N + 1))
          rfl
        have hnz : ¬ (N : Int) + 1 = 0 := by omega
        clear hk
        have hSh := tkR_short (A.extract 0 k) A k (by rw [bl_extractT]; rfl)
        rw [hRA] at hSh
        have CIf : Hid (∀ u : World, Below w.heap.size w u → Calls Tryd.prog 6 #[.string (A.extract 0 k)] u fun e w' => ∃ v, e = .returned (.tuple #[v, .int .i64 ((tkR (A.extract 0 k) 0).2 : Int)]) ∧ ownV w' u.heap.size 9 1 v (tkR (A.extract 0 k) 0).1.length (stF (tkR (A.extract 0 k) 0).1) ∧ Below u.heap.size u w') := fun u hu => CI.out (A.extract 0 k) u hu (by simp; omega)
        generalize (tkR (A.extract 0 k) 0).1 = M at *
        generalize (tkR (A.extract 0 k) 0).2 = mz at *
        clear CI hRA
        go_wp2_with fail
        refine (CIf.out _ hB).mono ?_
        rintro e w8 ⟨vM, rfl, hM, hX⟩
        obtain ⟨TM, cM, rfl⟩ := hM.form
        replace hL := hL.far hX
        replace hO := hO.far hX
        replace hB := hB.trans (hX.mono hB.size)
        clear hX CIf
        have hML := hSh.length_le
        have hAe : A.toList = (s.extract 0 N).toList := by simpa using hAt.out
        have hO1 : (L ++ [t]).length = L.length + 1 := by simp
        rw [hO1] at hO
        obtain ⟨gO, cO', eO⟩ := ownsRow_succ hO
        cases eO
        have hOc : w8.cell? ⟨gO, L.length, none⟩ = some (.string t) := by
          rw [hO.cell L.length (by omega), stF_app, List.getElem?_append_right (by rw [stF_len]; omega), stF_len]
          simp [stF]
        have hcL : L.length ≤ cL := by
          rcases hL.shape with ⟨h1, h2, _⟩ | ⟨g, cap, h1, _, _, h2, _⟩
          · omega
          · cases h1; exact h2
        have hcM : M.length ≤ cL := by omega
        have hMi : (M.length : Int) ≤ (L.length : Int) := by omega
        go_wp2_with fail
        refine (CFt.out _ hB).mono ?_
        rintro e w9 ⟨rfl, hX⟩
        replace hL := hL.far hX
        replace hM := hM.far hX
        replace hB := hB.trans (hX.mono hB.size)
        clear hX CFt hAt
        have CM : Hid (∀ (c1 c2 : Nat), Calls Tryd.prog 8 #[.slice TM M.length c1, .slice TL M.length c2] w9 fun e w' => e = .returned (.bool true) ∧ Below w9.heap.size w9 w') := fun c1 c2 => l_sameTexts TM TL c1 c2 M w9 hM.reads.2 (CellsAt.headT hL.reads.2 hSh) (by omega)
        go_wp2_with fail
        refine (CM.out _ _).mono ?_
        rintro e w10 ⟨rfl, hX⟩
        replace hB := hB.trans (hX.mono hB.size)
        go_wp2
        go_ret
        exact ⟨by first | rfl | exact ret_bool (by simp), hB⟩
end Go.Proofs.YteflhnmoceppgaaDoor
