/-
  What the program and the model put into a table asked exactly, and drop.
-/
import Derived.Test.YtnlignfmicincaaTabKExact
import Derived.Test.YtnlignfmicincaaTabSExact
namespace Go.Proofs.Ytnlignfmicincaa
open Go.RowKit Go.PlainAid
set_option maxRecDepth 100000 in
set_option maxHeartbeats 800000 in
theorem i_ExactPut (g off c : Nat) (l : List ExV) (r : ExV) (w : World) (h : IntsAt w (some ⟨g, off, none⟩) (exF l)) (hc : l.length ≤ c) (hl : l.length ≤ 1048576) :
    Calls Try.prog 11 #[.slice (some ⟨g, off, none⟩) l.length c, .int .i64 r.key, .int .i64 r.act] w fun e w' => ∃ v, e = .returned (.tuple #[v, .int .i64 (exPutC l r)]) ∧ ownR w' w.heap.size 52 2 v (exPutR l r).length (exF (exPutR l r)) ∧ Below w.heap.size w w' := by
  have C : Hid (∀ u : World, u = w → Calls Try.prog 30 #[.slice (some ⟨g, off, none⟩) l.length c, .agg (exL r)] u fun e w' => ∃ v, e = .returned (.tuple #[v, .int .i64 (exPutC l r)]) ∧ ownR w' u.heap.size 52 2 v (exPutR l r).length (exF (exPutR l r)) ∧ Below u.heap.size u w') := by
    rintro u rfl; exact i_exPut g off c l r u h hc hl
  generalize exPutC l r = pc at *
  generalize exPutR l r = pr at *
  go_enter Try.func11, Try.ntmps11
  go_wp2_with fail
  go_at_call 30
  refine (C.out _ rfl).mono ?_
  rintro e w1 ⟨v, rfl, ho, hb⟩
  go_wp2
  go_ret2
  exact ⟨_, rfl, ho, hb⟩
set_option maxRecDepth 100000 in
set_option maxHeartbeats 800000 in
theorem i_ExactDrop (g off c : Nat) (l : List ExV) (key : Int) (w : World) (h : IntsAt w (some ⟨g, off, none⟩) (exF l)) (hc : l.length ≤ c) (hl : l.length ≤ 1048576) :
    Calls Try.prog 9 #[.slice (some ⟨g, off, none⟩) l.length c, .int .i64 key] w fun e w' => ∃ v, e = .returned v ∧ ownR w' w.heap.size 52 2 v (exDropR l ⟨key, 0⟩).length (exF (exDropR l ⟨key, 0⟩)) ∧ Below w.heap.size w w' := by
  have C : Hid (∀ u : World, u = w → Calls Try.prog 28 #[.slice (some ⟨g, off, none⟩) l.length c, .agg (exL ⟨key, 0⟩)] u fun e w' => ∃ v, e = .returned v ∧ ownR w' u.heap.size 52 2 v (exDropR l ⟨key, 0⟩).length (exF (exDropR l ⟨key, 0⟩)) ∧ Below u.heap.size u w') := by
    rintro u rfl; exact i_exDrop g off c l ⟨key, 0⟩ u h hc hl
  generalize exDropR l ⟨key, 0⟩ = pr at *
  go_enter Try.func9, Try.ntmps9
  go_wp2_with fail
  go_at_call 28
  refine (C.out _ rfl).mono ?_
  rintro e w1 ⟨v, rfl, ho, hb⟩
  go_wp2
  go_ret
  exact ⟨_, rfl, ho, hb⟩
theorem exSorted {l : List ExV} (h : exTab l = true) : ∀ i, i + 1 < l.length → exLt (l.getD i ⟨0, 0⟩) (l.getD (i + 1) ⟨0, 0⟩) = true := fun _ hi => tblB_lt h hi
theorem exNe (a r : ExV) : ne exLt a r = decide (a.key ≠ r.key) := by unfold ne exLt; rw [Bool.eq_iff_iff]; simp; omega
set_option maxRecDepth 100000 in
set_option maxHeartbeats 3200000 in
theorem s_ExactDrop (T : Option Addr) (c : Nat) (l : List ExV) (key : Int) (w : World) (h : IntsAt w T (exF l)) (hl : l.length ≤ 1048576) :
    Calls Try.prog 10 #[.slice T l.length c, .int .i64 key] w fun e w' => ∃ v, e = .returned v ∧ ownR w' w.heap.size 52 2 v (exDropR l ⟨key, 0⟩).length (exF (exDropR l ⟨key, 0⟩)) ∧ Below w.heap.size w w' := by
  have CT : Hid (∀ u : World, Below w.heap.size w u → Calls Try.prog 29 #[.slice T l.length c] u fun e w' => e = .returned (.bool (exTab l)) ∧ Below u.heap.size u w') := fun u hu => s_exTab T c l u (h.below hu) (by omega)
  have hW0 : Below w.heap.size w (w.alloc (.cells #[] 52)) := (Below.refl _ w).alloc (Nat.le_refl _) _
  have HO0 : Hid (ownR (w.alloc (.cells #[] 52)) w.heap.size 52 2 (.slice (some ⟨w.heap.size, 0, none⟩) 0 0) 0 []) := World.ownsRow_made w #[] 0 (Nat.le_refl _) (by decide) rfl
  cases ht : exTab l
  · rw [ht] at CT
    have e : exDropR l ⟨key, 0⟩ = [] := by unfold exDropR; rw [ht]; rfl
    rw [e]
    go_enter Try.func10, Try.ntmps10
    go_wp2
    generalize hW : w.alloc _ = w0 at *
    clear hW
    go_loopw [6, 5] (fun i v wr => i = .int .i64 0 ∧ v = .slice (some ⟨w.heap.size, 0, none⟩) 0 0 ∧ Below w0.heap.size w0 wr) (fun _ _ _ => 0)
    case atStart => exact ⟨rfl, rfl, Below.refl _ _⟩
    case round =>
      obtain ⟨rfl, rfl, hb⟩ := hrel
      have hB := hW0.trans (hb.mono hW0.size)
      have ho := HO0.out.far hb
      by_cases h0 : l.length = 0
      · have h1 : ¬ ((0 : Int) < (l.length : Int)) := by omega
        clear h0
        go_wp2
        go_ret
        exact ⟨_, rfl, ho, hB⟩
      · have h1 : (0 : Int) < (l.length : Int) := by omega
        go_wp2_with (go_at_call 29; refine (CT.out _ hB).mono ?_; rintro e w1 ⟨rfl, hb1⟩)
        go_ret
        exact ⟨_, rfl, ho.far hb1, hB.trans (hb1.mono hB.size)⟩
  · rw [ht] at CT
    have e : exDropR l ⟨key, 0⟩ = l.filter (fun a => decide (a.key ≠ key)) := by
      unfold exDropR
      rw [ht, if_pos rfl, ← drop_filter exOrd l ⟨key, 0⟩ ⟨0, 0⟩ (exSorted ht)]
      congr 1; funext a; exact exNe a ⟨key, 0⟩
    rw [e]
    go_enter Try.func10, Try.ntmps10
    go_wp2
    generalize hW : w.alloc _ = w0 at *
    clear hW
    go_loopw [6, 5] (fun i v wr => ∃ j : Nat, j ≤ l.length ∧ i = .int .i64 (j : Int) ∧ ownR wr w.heap.size 52 2 v ((l.take j).filter (fun a => decide (a.key ≠ key))).length (exF ((l.take j).filter (fun a => decide (a.key ≠ key)))) ∧ Below w.heap.size w wr) (fun i _ _ => ((l.length : Int) - intOf i).toNat)
    case atStart => exact ⟨0, by omega, rfl, HO0.out, hW0⟩
    case round =>
      obtain ⟨j, hj, rfl, ho, hB⟩ := hrel
      by_cases hlt : j < l.length
      · have hj1 : (j : Int) < (l.length : Int) := by omega
        go_wp2_with fail
        go_at_call 29
        refine (CT.out _ hB).mono ?_
        rintro e w1 ⟨rfl, hb1⟩
        replace hB := hB.trans (hb1.mono hB.size)
        replace ho := ho.far hb1
        clear hb1
        rcases h.below hB with h | ⟨g, off, rfl, hg, hc⟩
        · have := exF_len l; rw [h] at this; simp at this; omega
        · have hcs := ex_cells hc j hlt
          clear hc
          have HF : Hid ((l.take (j + 1)).filter (fun a => decide (a.key ≠ key)) = (l.take j).filter (fun a => decide (a.key ≠ key)) ++ (if decide ((exA l j).key ≠ key) = true then [exA l j] else [])) := by
            show _ = _
            rw [List.take_succ_eq_append_getElem hlt, List.filter_append, exA_eq l j hlt, List.filter_cons, List.filter_nil]
          have hfl : ((l.take j).filter (fun a => decide (a.key ≠ key))).length ≤ j := Nat.le_trans (List.length_filter_le _ _) (by simp; omega)
          generalize (l.take j).filter (fun a => decide (a.key ≠ key)) = fl at *
          by_cases hq : (exA l j).key = key
          · rw [if_neg (by simp [hq]), List.append_nil] at HF
            generalize exA l j = b at *
            obtain ⟨x0, x1⟩ := b
            simp only at hq
            subst hq
            go_wp2
            go_roundw
            case rel => exact ⟨j + 1, by omega, by go_num, by rw [HF.out]; exact ho, hB⟩
            case measure => simp [intOf]; omega
          · rw [if_pos (by simp [hq])] at HF
            generalize exA l j = b at *
            obtain ⟨x0, x1⟩ := b
            simp only at hq
            go_wp2_with (at_builtin; refine wpList_append_recs Try.infExact rfl _ _ rfl w.heap.size _ _ _ rfl (ho.alloc _) _ 1 1 [x0, x1] rfl (by simp) (by simp) (ints_new w1 52 [x0, x1]) (by omega) (by have := hB.size; simp; omega) ?_; intro v' w3 ho3 hb3)
            go_roundw
            case rel =>
              refine ⟨j + 1, by omega, by go_num, ?_, (hB.alloc hB.size _).trans hb3⟩
              rw [HF.out, exF_app, List.length_append]; exact ho3
            case measure => simp [intOf]; omega
      · have e : j = l.length := by omega
        subst e
        rw [List.take_length] at ho
        go_wp2
        go_ret
        exact ⟨_, rfl, ho, hB⟩
set_option maxRecDepth 100000 in
set_option maxHeartbeats 6400000 in
theorem s_ExactPut (T : Option Addr) (c : Nat) (l : List ExV) (r : ExV) (w : World) (h : IntsAt w T (exF l)) (hl : l.length ≤ 1048576) :
    Calls Try.prog 13 #[.slice T l.length c, .int .i64 r.key, .int .i64 r.act] w fun e w' => ∃ v, e = .returned (.tuple #[v, .int .i64 (exPutC l r)]) ∧ ownR w' w.heap.size 52 2 v (exPutR l r).length (exF (exPutR l r)) ∧ Below w.heap.size w w' := by
  have CT : Hid (∀ u : World, Below w.heap.size w u → Calls Try.prog 29 #[.slice T l.length c] u fun e w' => e = .returned (.bool (exTab l)) ∧ Below u.heap.size u w') := fun u hu => s_exTab T c l u (h.below hu) (by omega)
  have CK : Hid (∀ u : World, Calls Try.prog 31 #[.int .i64 r.key] u fun e w' => e = .returned (.bool (keyB r.key)) ∧ w' = u) := fun u => s_Key r.key u
  have CA : Hid (∀ u : World, Calls Try.prog 32 #[.int .i64 r.act] u fun e w' => e = .returned (.bool (actB r.act)) ∧ w' = u) := fun u => s_Act r.act u
  have HCc : Hid (exPutC l r = if !(exTab l && (keyB r.key && actB r.act)) then 1 else if there exLt (⟨0, 0⟩ : ExV) l r then 0 else if l.length = 32 then 2 else 0) := rfl
  have HR1 : Hid (¬ exPutC l r = 0 → exPutR l r = []) := fun h => by unfold exPutR; rw [if_neg h]
  have HR0 : Hid (exPutC l r = 0 → exPutR l r = putL exLt (⟨0, 0⟩ : ExV) l r) := fun h => by unfold exPutR; rw [if_pos h]
  cases ht : exTab l
  · rw [ht] at CT
    have e0 : exPutC l r = 1 := by rw [HCc.out, ht]; rfl
    have e1 : exPutR l r = [] := HR1.out (by rw [e0]; decide)
    rw [e0, e1]
    clear HCc HR0 HR1
    go_enter Try.func13, Try.ntmps13
    go_wp2_with (go_at_call 29; refine (CT.out _ (Below.refl _ _)).mono ?_; rintro e w1 ⟨rfl, hb1⟩)
    go_ret2
    exact ⟨_, rfl, ownR.nil _ _ _ _, hb1⟩
  · rw [ht] at CT
    cases hk : keyB r.key
    · rw [hk] at CK
      have e0 : exPutC l r = 1 := by rw [HCc.out, hk, ht]; rfl
      have e1 : exPutR l r = [] := HR1.out (by rw [e0]; decide)
      rw [e0, e1]
      clear HCc HR0 HR1
      go_enter Try.func13, Try.ntmps13
      go_wp2_with (first | (go_at_call 29; refine (CT.out _ (Below.refl _ _)).mono ?_; rintro e w1 ⟨rfl, hb1⟩) | (go_at_call 31; refine (CK.out _).mono ?_; rintro e wz ⟨rfl, hz⟩; rw [hz]; clear hz wz))
      go_ret2
      exact ⟨_, rfl, ownR.nil _ _ _ _, hb1⟩
    · rw [hk] at CK
      cases ha : actB r.act
      · rw [ha] at CA
        have e0 : exPutC l r = 1 := by rw [HCc.out, hk, ht, ha]; rfl
        have e1 : exPutR l r = [] := HR1.out (by rw [e0]; decide)
        rw [e0, e1]
        clear HCc HR0 HR1
        go_enter Try.func13, Try.ntmps13
        go_wp2_with (first | (go_at_call 29; refine (CT.out _ (Below.refl _ _)).mono ?_; rintro e w1 ⟨rfl, hb1⟩) | (go_at_call 31; refine (CK.out _).mono ?_; rintro e wz ⟨rfl, hz⟩; rw [hz]; clear hz wz) | (go_at_call 32; refine (CA.out _).mono ?_; rintro e wz ⟨rfl, hz⟩; rw [hz]; clear hz wz))
        go_ret2
        exact ⟨_, rfl, ownR.nil _ _ _ _, hb1⟩
      · rw [ha] at CA
        rw [ht, hk, ha] at HCc
        have hpl := place_le (lt := exLt) l r
        have hn32 : l.length ≤ 32 := tblB_le ht
        have HE := putJ_end exOrd l r ⟨0, 0⟩ (exSorted ht)
        have HLn := putL_length (lt := exLt) (⟨0, 0⟩ : ExV) l r
        have HJ0 : Hid (∀ j, j < place exLt l r → ¬ r.key ≤ (exA l j).key ∧ ¬ (exA l j).key = r.key ∧ putJ exLt l r (j + 1) = putJ exLt l r j ++ [exA l j]) := fun j hj => by
          have h1 := place_below (lt := exLt) l r ⟨0, 0⟩ j hj
          have h2 : (exA l j).key < r.key := of_decide_eq_true h1
          exact ⟨by omega, by omega, putJ_ahead l r ⟨0, 0⟩ j hj⟩
        have HJ1 : Hid (place exLt l r < l.length → r.key ≤ (exA l (place exLt l r)).key ∧ putJ exLt l r (place exLt l r + 1) = putJ exLt l r (place exLt l r) ++ [r] ++ (if (exA l (place exLt l r)).key = r.key then [] else [exA l (place exLt l r)])) := fun hj => by
          have h1 := place_at (lt := exLt) l r ⟨0, 0⟩ hj
          have h2 : ¬ (exA l (place exLt l r)).key < r.key := of_decide_eq_false h1
          refine ⟨by omega, ?_⟩
          have h3 := putJ_at (lt := exLt) l r ⟨0, 0⟩ hj
          rw [exNe] at h3
          rw [h3]; congr 1
          show (if decide ((exA l (place exLt l r)).key ≠ r.key) = true then [exA l (place exLt l r)] else []) = _
          by_cases hq : (exA l (place exLt l r)).key = r.key
          · rw [if_pos hq, if_neg (by simp [hq])]
          · rw [if_neg hq, if_pos (by simp [hq])]
        have HJ2 : Hid (∀ j, place exLt l r < j → j < l.length → putJ exLt l r (j + 1) = putJ exLt l r j ++ (if (exA l j).key = r.key then [] else [exA l j])) := fun j hj hj2 => by
          have h3 := putJ_behind (lt := exLt) l r ⟨0, 0⟩ j hj hj2
          rw [exNe] at h3
          rw [h3]; congr 1
          show (if decide ((exA l j).key ≠ r.key) = true then [exA l j] else []) = _
          by_cases hq : (exA l j).key = r.key
          · rw [if_pos hq, if_neg (by simp [hq])]
          · rw [if_neg hq, if_pos (by simp [hq])]
        have HJl : Hid (∀ j, j ≤ l.length → (putJ exLt l r j).length ≤ j + 1) := fun j hj => by
          unfold putJ; split
          · simp; omega
          · simp only [List.length_append, List.length_take, List.length_cons, List.length_nil]
            have := List.length_filter_le (fun a => ne exLt a r) ((l.take j).drop (place exLt l r))
            simp at this; omega
        have HJz := putJ_0 (lt := exLt) l r
        have HX : Hid ((there exLt (⟨0, 0⟩ : ExV) l r = true ∨ ¬ l.length = 32 → exPutC l r = 0 ∧ exPutR l r = putL exLt (⟨0, 0⟩ : ExV) l r) ∧ (there exLt (⟨0, 0⟩ : ExV) l r = false ∧ l.length = 32 → exPutC l r = 2 ∧ exPutR l r = [])) := by
          refine ⟨fun hh => ?_, fun hh => ?_⟩
          · have e0 : exPutC l r = 0 := by
              rw [HCc.out]
              rcases hh with hh | hh
              · simp [hh]
              · simp [hh]
            exact ⟨e0, HR0.out e0⟩
          · have e0 : exPutC l r = 2 := by rw [HCc.out, hh.1, hh.2]; rfl
            exact ⟨e0, HR1.out (by rw [e0]; decide)⟩
        clear HCc HR0 HR1
        have HL2 : Hid ((putL exLt (⟨0, 0⟩ : ExV) l r).length = l.length + (if there exLt (⟨0, 0⟩ : ExV) l r then 0 else 1)) := HLn
        have HE2 : Hid ((if place exLt l r < l.length then putJ exLt l r l.length else putJ exLt l r l.length ++ [r]) = putL exLt (⟨0, 0⟩ : ExV) l r) := HE
        clear HE HLn
        generalize exPutC l r = pc at *
        generalize exPutR l r = pr at *
        generalize place exLt l r = pl at *
        generalize putL exLt (⟨0, 0⟩ : ExV) l r = pu at *
        generalize there exLt (⟨0, 0⟩ : ExV) l r = th at *
        generalize putJ exLt l r = PJ at *
        obtain ⟨key, act⟩ := r
        simp only at *
        have h32 := hn32
        clear hn32
        go_enter Try.func13, Try.ntmps13
        go_wp2_with (first | (go_at_call 29; refine (CT.out _ (Below.refl _ _)).mono ?_; rintro e w1 ⟨rfl, hb1⟩) | (go_at_call 31; refine (CK.out _).mono ?_; rintro e wz ⟨rfl, hz⟩; rw [hz]; clear hz wz) | (go_at_call 32; refine (CA.out _).mono ?_; rintro e wz ⟨rfl, hz⟩; rw [hz]; clear hz wz))
        have hW0 : Below w.heap.size w (w1.alloc (.cells #[] 52)) := hb1.alloc hb1.size _
        have HO0 : Hid (ownR (w1.alloc (.cells #[] 52)) w.heap.size 52 2 (.slice (some ⟨w1.heap.size, 0, none⟩) 0 0) 0 []) := World.ownsRow_made w1 #[] 0 hb1.size (by decide) rfl
        generalize hW : w1.alloc _ = w0 at *
        clear hW
        go_loopw [10, 8, 9] (fun i v dn wr => ∃ j : Nat, j ≤ l.length ∧ i = .int .i64 (j : Int) ∧ dn = .bool (decide (pl < j)) ∧ ownR wr w.heap.size 52 2 v (PJ j).length (exF (PJ j)) ∧ Below w.heap.size w wr) (fun i _ _ _ => ((l.length : Int) - intOf i).toNat)
        case atStart => exact ⟨0, by omega, rfl, by simp, by rw [HJz]; exact HO0.out, hW0⟩
        case round =>
          obtain ⟨j, hj, rfl, rfl, ho, hB⟩ := hrel
          by_cases hlt : j < l.length
          · have hj1 : (j : Int) < (l.length : Int) := by omega
            have hjl := HJl.out j hj
            rcases h with h | ⟨g, off, rfl, hg, hc⟩
            · have := exF_len l; rw [h] at this; simp at this; omega
            · have hcw := ex_cells hc j hlt
              have HC3 : Hid (∀ u : World, Below w.heap.size w u → u.cell? ⟨g, off + j * 2, none⟩ = some (.int .i64 (exA l j).key) ∧ u.cell? ⟨g, off + j * 2 + 1, none⟩ = some (.int .i64 (exA l j).act)) := fun u hu => ex_below hu hg hcw
              have hcs := HC3.out _ hB
              clear hc hcw
              rcases Nat.lt_trichotomy j pl with hjp | hjp | hjp
              · obtain ⟨q1, q2, q3⟩ := HJ0.out j hjp
                have Q3 : Hid (PJ (j + 1) = PJ j ++ [exA l j]) := q3
                have hd : decide (pl < j) = false := by simp; omega
                have HD : Hid (decide (pl < j + 1) = false) := by show _ = _; simp; omega
                rw [hd]
                clear q3 hd
                generalize exA l j = b at *
                obtain ⟨x0, x1⟩ := b
                simp only at q1 q2
                go_wp2_with (at_builtin; refine wpList_append_recs Try.infExact rfl (.tmp 55) (.tmp 60) rfl w.heap.size _ _ _ rfl (ho.alloc _) _ 1 1 [x0, x1] rfl (by simp) (by simp) (ints_new wr 52 [x0, x1]) (by omega) (by have := hB.size; simp; omega) ?_; intro v' w3 ho3 hb3)
                go_roundw
                case rel =>
                  refine ⟨j + 1, by omega, by go_num, by rw [HD.out], ?_, (hB.alloc hB.size _).trans hb3⟩
                  rw [Q3.out, exF_app, List.length_append]; exact ho3
                case measure => simp [intOf]; omega
              · subst hjp
                obtain ⟨q1, q3⟩ := HJ1.out hlt
                have hd : decide (j < j) = false := by simp
                have HD : Hid (decide (j < j + 1) = true) := by show _ = _; simp
                rw [hd]
                clear hd
                by_cases hq : (exA l j).key = key
                · rw [if_pos hq, List.append_nil] at q3
                  have Q3 : Hid (PJ (j + 1) = PJ j ++ [⟨key, act⟩]) := q3
                  clear q3
                  generalize exA l j = b at *
                  obtain ⟨x0, x1⟩ := b
                  simp only at q1 hq
                  subst hq
                  go_wp2_with (at_builtin; refine wpList_append_recs Try.infExact rfl (.tmp 42) (.tmp 46) rfl w.heap.size _ _ _ rfl (ho.alloc _) _ 1 1 [x0, act] rfl (by simp) (by simp) (ints_new wr 52 [x0, act]) (by simp; omega) (by have := hB.size; simp; omega) ?_; intro v' w3 ho3 hb3; have hB3 := (hB.alloc hB.size _).trans hb3; have hcs3 := HC3.out _ hB3; clear hcs)
                  go_roundw
                  case rel =>
                    refine ⟨j + 1, by omega, by go_num, by rw [HD.out], ?_, hB3⟩
                    rw [Q3.out, exF_app, List.length_append]; exact ho3
                  case measure => simp [intOf]; omega
                · rw [if_neg hq] at q3
                  have Q3 : Hid (PJ (j + 1) = PJ j ++ [⟨key, act⟩] ++ [exA l j]) := q3
                  clear q3
                  generalize exA l j = b at *
                  obtain ⟨x0, x1⟩ := b
                  simp only at q1 hq
                  go_wp2_with (first | (at_builtin; refine wpList_append_recs Try.infExact rfl (.tmp 42) (.tmp 46) rfl w.heap.size _ _ _ rfl (ho.alloc _) _ 1 1 [key, act] rfl (by simp) (by simp) (ints_new wr 52 [key, act]) (by simp; omega) (by have := hB.size; simp; omega) ?_; intro v' w3 ho3 hb3; have hB3 := (hB.alloc hB.size _).trans hb3; have hcs3 := HC3.out _ hB3; clear hcs; have HO3 : Hid (ownR w3 w.heap.size 52 2 v' ((PJ j).length + 1) (exF (PJ j) ++ [key, act])) := ho3; clear ho3 ho) | (at_builtin; refine wpList_append_recs Try.infExact rfl (.tmp 55) (.tmp 60) rfl w.heap.size _ _ _ rfl (HO3.out.alloc _) _ 1 1 [x0, x1] rfl (by simp) (by simp) (ints_new w3 52 [x0, x1]) (by simp; omega) (by have := hB3.size; simp; omega) ?_; intro v4 w4 ho4 hb4))
                  go_roundw
                  case rel =>
                    refine ⟨j + 1, by omega, by go_num, by rw [HD.out], ?_, (hB3.alloc hB3.size _).trans hb4⟩
                    rw [Q3.out, exF_app, exF_app, List.length_append, List.length_append]; exact ho4
                  case measure => simp [intOf]; omega
              · have q3 := HJ2.out j hjp hlt
                have hd : decide (pl < j) = true := by simp; omega
                have HD : Hid (decide (pl < j + 1) = true) := by show _ = _; simp; omega
                rw [hd]
                clear hd
                by_cases hq : (exA l j).key = key
                · rw [if_pos hq, List.append_nil] at q3
                  have Q3 : Hid (PJ (j + 1) = PJ j) := q3
                  clear q3
                  generalize exA l j = b at *
                  obtain ⟨x0, x1⟩ := b
                  simp only at hq
                  subst hq
                  go_wp2
                  go_roundw
                  case rel => exact ⟨j + 1, by omega, by go_num, by rw [HD.out], by rw [Q3.out]; exact ho, hB⟩
                  case measure => simp [intOf]; omega
                · rw [if_neg hq] at q3
                  have Q3 : Hid (PJ (j + 1) = PJ j ++ [exA l j]) := q3
                  clear q3
                  generalize exA l j = b at *
                  obtain ⟨x0, x1⟩ := b
                  simp only at hq
                  go_wp2_with (at_builtin; refine wpList_append_recs Try.infExact rfl (.tmp 55) (.tmp 60) rfl w.heap.size _ _ _ rfl (ho.alloc _) _ 1 1 [x0, x1] rfl (by simp) (by simp) (ints_new wr 52 [x0, x1]) (by simp; omega) (by have := hB.size; simp; omega) ?_; intro v' w3 ho3 hb3)
                  go_roundw
                  case rel =>
                    refine ⟨j + 1, by omega, by go_num, by rw [HD.out], ?_, (hB.alloc hB.size _).trans hb3⟩
                    rw [Q3.out, exF_app, List.length_append]; exact ho3
                  case measure => simp [intOf]; omega
          · have e : j = l.length := by omega
            subst e
            clear HJ0 HJ1 HJ2
            have hjl := HJl.out l.length (Nat.le_refl _)
            have HY : Hid ((¬ 32 < pu.length → pc = 0 ∧ pr = pu) ∧ (32 < pu.length → pc = 2 ∧ pr = [])) := by
              have hL := HL2.out
              refine ⟨fun hh => HX.out.1 ?_, fun hh => HX.out.2 ?_⟩
              · cases th
                · right; simp at hL; omega
                · exact .inl rfl
              · cases th
                · simp at hL; exact ⟨rfl, by omega⟩
                · simp at hL; omega
            clear HX HL2
            by_cases hpn : pl < l.length
            · have hd : decide (pl < l.length) = true := by simp; omega
              rw [hd]
              have he := HE2.out
              rw [if_pos hpn] at he
              rw [he] at ho
              clear he hd
              by_cases h33 : 32 < pu.length
              · obtain ⟨e0, e1⟩ := HY.out.2 h33
                subst e0 e1
                have h34 : (32 : Int) < (pu.length : Int) := by omega
                rcases ho.shape with ⟨_, h0, _⟩ | ⟨g, cap, rfl, _⟩
                · omega
                · go_wp2
                  go_ret2
                  exact ⟨_, rfl, ownR.nil _ _ _ _, hB⟩
              · obtain ⟨e0, e1⟩ := HY.out.1 h33
                subst e0 e1
                have h34 : ¬ (32 : Int) < (pr.length : Int) := by omega
                rcases ho.shape with ⟨rfl, h0, _⟩ | ⟨g, cap, rfl, _⟩
                · obtain rfl : pr = [] := List.eq_nil_of_length_eq_zero h0
                  clear h34
                  go_wp2
                  go_ret2
                  exact ⟨_, rfl, ho, hB⟩
                · go_wp2
                  go_ret2
                  exact ⟨_, rfl, ho, hB⟩
            · have hd : decide (pl < l.length) = false := by simp; omega
              rw [hd]
              have he := HE2.out
              rw [if_neg hpn] at he
              have HE3 : Hid (PJ l.length ++ [⟨key, act⟩] = pu) := he
              clear he hd
              by_cases h33 : 32 < pu.length
              · obtain ⟨e0, e1⟩ := HY.out.2 h33
                subst e0 e1
                have h34 : (32 : Int) < (pu.length : Int) := by omega
                go_wp2_with (at_builtin; refine wpList_append_recs Try.infExact rfl (.tmp 64) (.tmp 68) rfl w.heap.size _ _ _ rfl (ho.alloc _) _ 1 1 [key, act] rfl (by simp) (by simp) (ints_new wr 52 [key, act]) (by simp; omega) (by have := hB.size; simp; omega) ?_; intro v' w3 ho3 hb3; have hB3 := (hB.alloc hB.size _).trans hb3; have ho4 : ownR w3 w.heap.size 52 2 v' (PJ l.length ++ [(⟨key, act⟩ : ExV)]).length (exF (PJ l.length ++ [(⟨key, act⟩ : ExV)])) := (by rw [exF_app, List.length_append]; exact ho3); rw [HE3.out] at ho4; obtain ⟨T3, c3, rfl⟩ := ho4.form; clear ho3 hb3)
                go_ret2
                exact ⟨_, rfl, ownR.nil _ _ _ _, hB3⟩
              · obtain ⟨e0, e1⟩ := HY.out.1 h33
                subst e0 e1
                have h34 : ¬ (32 : Int) < (pr.length : Int) := by omega
                go_wp2_with (at_builtin; refine wpList_append_recs Try.infExact rfl (.tmp 64) (.tmp 68) rfl w.heap.size _ _ _ rfl (ho.alloc _) _ 1 1 [key, act] rfl (by simp) (by simp) (ints_new wr 52 [key, act]) (by simp; omega) (by have := hB.size; simp; omega) ?_; intro v' w3 ho3 hb3; have hB3 := (hB.alloc hB.size _).trans hb3; have ho4 : ownR w3 w.heap.size 52 2 v' (PJ l.length ++ [(⟨key, act⟩ : ExV)]).length (exF (PJ l.length ++ [(⟨key, act⟩ : ExV)])) := (by rw [exF_app, List.length_append]; exact ho3); rw [HE3.out] at ho4; obtain ⟨T3, c3, rfl⟩ := ho4.form; clear ho3 hb3)
                go_ret2
                exact ⟨_, rfl, ho4, hB3⟩
end Go.Proofs.Ytnlignfmicincaa
