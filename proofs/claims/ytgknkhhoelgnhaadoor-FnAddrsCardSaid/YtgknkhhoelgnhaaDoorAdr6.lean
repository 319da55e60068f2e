/-
  Addresses read from texts: the program's ReadAddr.
-/
import Derived.Test.YtgknkhhoelgnhaaDoorAdr5
import Derived.Test.YtgknkhhoelgnhaaDoorIps3
namespace Go.Proofs.YtgknkhhoelgnhaaDoor
open Go.RowKit Go.PlainAid
def adV (l : List UInt8) : Value := .tuple #[.int .i64 (adR l), .bool (adB l)]
theorem adV_none {l : List UInt8} (h : adRd l = none) : adV l = .tuple #[.int .i64 0, .bool false] := by unfold adV adR adB; rw [h]; rfl
theorem adV_some {l : List UInt8} {N : Int} (h : adRd l = some N) : adV l = .tuple #[.int .i64 N, .bool true] := by unfold adV adR adB; rw [h]; rfl
theorem cellsOf_at (l : List ByteArray) (N j : Nat) (h : j < l.length) : (Lib.cellsOf l N)[j]? = some (.string l[j]) := by
  unfold Lib.cellsOf
  rw [List.getElem?_toArray, List.getElem?_append_left (by simpa using h), List.getElem?_map, List.getElem?_eq_getElem h]; rfl
def intA : Value → Int
  | .int _ n => n
  | _ => 0
set_option maxRecDepth 100000 in
set_option maxHeartbeats 3200000 in
theorem i_ReadAddr (s : ByteArray) (w : World) (hs : s.size ≤ 1048576) (hL : LibW w) :
    Calls Tryd.prog 15 #[.string s] w fun e w' => e = .returned (adV (bl s)) ∧ Below w.heap.size w w' := by
  obtain ⟨m, hm⟩ := hL.mx
  have CS : Hid (Calls Tryd.prog 40 #[.string s, .string ⟨#[46]⟩, .int .i64 5] w fun e w' =>
      e = .returned (.slice (some ⟨w.heap.size, 0, none⟩) (Lib.splitB ⟨#[46]⟩ 0 (min 5 (s.size + 1) - 1) s).length (min 5 (s.size + 1))) ∧ w' = w.alloc (.cells (Lib.cellsOf (Lib.splitB ⟨#[46]⟩ 0 (min 5 (s.size + 1) - 1) s) (min 5 (s.size + 1))) 9)) :=
    Tryd.strings_SplitN s ⟨#[46]⟩ 5 m w (by omega) hm (by decide) (by decide) (by decide)
  have hmap : (Lib.splitB ⟨#[46]⟩ 0 (min 5 (s.size + 1) - 1) s).map (·.data.toList) = splitD (bl s) := by
    have := Lib.splitB_data ⟨#[46]⟩ 0 (min 5 (s.size + 1) - 1) s
    rw [this]
    unfold splitD
    rw [bl_length]
  have hle := Lib.splitB_length_le ⟨#[46]⟩ 0 (min 5 (s.size + 1) - 1) s
  have hbig : ∀ p ∈ Lib.splitB ⟨#[46]⟩ 0 (min 5 (s.size + 1) - 1) s, p.size ≤ 1099511627776 := fun p hp => by
    have hj := joinD_split (min 5 ((bl s).length + 1) - 1) (bl s)
    have hm2 : bl p ∈ splitD (bl s) := by rw [← hmap]; exact List.mem_map.2 ⟨p, hp, rfl⟩
    have key : ∀ (L : List (List UInt8)) (x : List UInt8), x ∈ L → x.length ≤ (joinD L).length := by
      intro L
      induction L with
      | nil => intro x hx; cases hx
      | cons a r ih =>
        intro x hx
        cases r with
        | nil => simp at hx; subst hx; exact Nat.le_refl _
        | cons b r =>
          rcases List.mem_cons.1 hx with e | hx
          · rw [e]; simp [joinD]
          · have := ih x hx
            simp only [joinD, List.length_append, List.length_cons] at this ⊢; omega
    have := key _ _ hm2
    unfold splitD at this
    rw [hj, bl_length, bl_length] at this
    omega
  generalize Lib.splitB ⟨#[46]⟩ 0 (min 5 (s.size + 1) - 1) s = ps at *
  by_cases h4 : ps.length = 4
  · have HA : Hid (adRd (bl s) = rdPs 0 (ps.map (·.data.toList))) := by
      show _ = _
      unfold adRd
      rw [← hmap, if_pos (by simpa using h4)]
    have hcap : 4 ≤ min 5 (s.size + 1) := by omega
    have CD : Hid (∀ (p : ByteArray) (u : World), Below w.heap.size w u → p.size ≤ 1099511627776 → Calls Tryd.prog 41 #[.string p] u fun e w' => e = .returned (rdV (bl p)) ∧ Below u.heap.size u w') := fun p u hb hp => i_readDecimal p u hp (hL.below hb)
    have hX : Bx (w.alloc (.cells (Lib.cellsOf ps (min 5 (s.size + 1))) 9)) w.heap.size (Lib.cellsOf ps (min 5 (s.size + 1))).toList := Bx.new w _ _
    have hB := (Below.refl w.heap.size w).alloc (Nat.le_refl _) (.cells (Lib.cellsOf ps (min 5 (s.size + 1))) 9)
    have hcl : ∀ j, (h : j < ps.length) → (Lib.cellsOf ps (min 5 (s.size + 1))).toList[j]? = some (.string ps[j]) := fun j h => by
      rw [Array.getElem?_toList]; exact cellsOf_at _ _ _ h
    rw [h4] at CS
    clear hm hL hle hmap
    generalize min 5 (s.size + 1) = cp at *
    generalize (Lib.cellsOf ps cp) = cc at *
    have hcell : ∀ j, (h : j < ps.length) → cc.toList[j]? = some (.string ps[j]) := hcl
    have HC : Hid (∀ j, (h : j < ps.length) → cc.toList[j]? = some (.string ps[j])) := hcl
    clear hcl hcell
    go_enter Tryd.func15, Tryd.ntmps15
    go_wp2_with fail
    refine CS.out.mono ?_
    rintro e w1 ⟨rfl, hw1⟩
    rw [← hw1] at hX hB
    clear hw1 CS
    go_wp2
    go_loopw [5, 17] (fun a i wr => ∃ (j : Nat) (acc : Int), j ≤ 4 ∧ a = .int .i64 acc ∧ i = .int .i64 (j : Int) ∧ 0 ≤ acc ∧ acc < 256 ^ j ∧ rdPs 0 (ps.map (·.data.toList)) = rdPs acc ((ps.drop j).map (·.data.toList)) ∧ Bx wr w.heap.size cc.toList ∧ Below w.heap.size w wr) (fun _ i _ => ((4 : Int) - intA i).toNat)
    case atStart => exact ⟨0, 0, by omega, rfl, rfl, by omega, by decide, by simp, hX, hB⟩
    case round =>
      clear hX hB
      obtain ⟨j, acc, hj, rfl, rfl, ha0, ha1, hrd, hX, hB⟩ := hrel
      by_cases hj4 : j < 4
      · have hjp : j < ps.length := by omega
        have hcj := hX.2 j _ (HC.out j hjp)
        have hji : (j : Int) < 4 := by omega
        have hd : ps.drop j = ps[j] :: ps.drop (j + 1) := List.drop_eq_getElem_cons hjp
        rw [hd, List.map_cons] at hrd
        have hsz := hbig ps[j] (List.getElem_mem hjp)
        have CD2 : Hid (∀ u : World, Below w.heap.size w u → Calls Tryd.prog 41 #[.string ps[j]] u fun e w' => e = .returned (rdV (bl ps[j])) ∧ Below u.heap.size u w') := fun u hb => CD.out _ u hb hsz
        obtain ⟨p, hp⟩ : ∃ p, p = ps[j] := ⟨_, rfl⟩
        rw [← hp] at hcj CD2
        have HD : Hid (rdPs 0 (ps.map (·.data.toList)) = rdPs acc (bl p :: (ps.drop (j + 1)).map (·.data.toList))) := by show _ = _; rw [hrd, hp]
        have hp256 : (256 : Int) ^ (j + 1) = 256 ^ j * 256 := Int.pow_succ ..
        have hp4 : (256 : Int) ^ j ≤ 16777216 := by
          have : j = 0 ∨ j = 1 ∨ j = 2 ∨ j = 3 := by omega
          rcases this with rfl | rfl | rfl | rfl <;> decide
        clear hrd hd hsz hbig hp
        cases hq : rdD (bl p) with
        | none =>
          rw [rdV_no hq] at CD2
          have HV : Hid (adV (bl s) = .tuple #[.int .i64 0, .bool false]) := adV_none (by rw [HA.out, HD.out, rdPs, hq])
          clear HD hq
          go_wp2_with fail
          refine (CD2.out _ hB).mono ?_
          rintro e w3 ⟨rfl, hb⟩
          go_wp2
          refine bodyPost_ret (v := .tuple #[.int .i64 0, .bool false]) ?_ rfl ⟨by rw [HV.out], hB.trans (hb.mono hB.size)⟩
          simp [results, Tryd.results15, go_sem]
        | some v =>
          rw [rdV_yes hq] at CD2
          have CB : Hid (∀ u : World, Calls Tryd.prog 42 #[.int .i64 v] u fun e w' => e = .returned (.bool (byteB v)) ∧ w' = u) := fun u => i_isByte v u
          by_cases hv : 0 ≤ v ∧ v ≤ 255
          · have hbv : byteB v = true := inB_true hv.1 hv.2
            rw [hbv] at CB
            have HN : Hid (rdPs 0 (ps.map (·.data.toList)) = rdPs (acc * 256 + v) ((ps.drop (j + 1)).map (·.data.toList))) := by show _ = _; rw [HD.out, rdPs, hq]; simp only; rw [if_pos hv]
            have w1' : IntKind.i64.wrap (acc * 256) = acc * 256 := wraps_i64 _ (by omega) (by omega)
            have o1 : bits .or .i64 (acc * 256) v = acc * 256 + v := or_8 ha0 (by omega) hv.1 (by omega)
            obtain ⟨hv0, hv1⟩ := hv
            clear HD hq hbv
            go_wp2_with fail
            refine (CD2.out _ hB).mono ?_
            rintro e w3 ⟨rfl, hb⟩
            replace hX := hX.below hb
            replace hB := hB.trans (hb.mono hB.size)
            clear hb
            go_wp2_with (go_at_call 42; refine (CB.out _).mono ?_; rintro e wq ⟨rfl, hq⟩; rw [hq]; clear hq wq)
            go_roundw
            case rel => exact ⟨j + 1, acc * 256 + v, by omega, rfl, by go_num, by omega, by omega, HN.out, hX, hB⟩
            case measure => simp [intA]; omega
          · have hbv : byteB v = false := inB_false (by omega)
            rw [hbv] at CB
            have HV : Hid (adV (bl s) = .tuple #[.int .i64 0, .bool false]) := adV_none (by rw [HA.out, HD.out, rdPs, hq]; simp only; rw [if_neg hv])
            clear HD hq hbv hv
            go_wp2_with fail
            refine (CD2.out _ hB).mono ?_
            rintro e w3 ⟨rfl, hb⟩
            replace hB := hB.trans (hb.mono hB.size)
            clear hb
            go_wp2_with (go_at_call 42; refine (CB.out _).mono ?_; rintro e wq ⟨rfl, hq⟩; rw [hq]; clear hq wq)
            refine bodyPost_ret (v := .tuple #[.int .i64 0, .bool false]) ?_ rfl ⟨by rw [HV.out], hB⟩
            simp [results, Tryd.results15, go_sem]
      · have hj5 : j = 4 := by omega
        subst hj5
        have hd : ps.drop 4 = [] := List.drop_of_length_le (by omega)
        have HV : Hid (adV (bl s) = .tuple #[.int .i64 acc, .bool true]) := adV_some (by rw [HA.out, hrd, hd]; rfl)
        clear hrd hd ha0 ha1 hbig
        go_wp2
        refine bodyPost_ret (v := .tuple #[.int .i64 acc, .bool true]) ?_ rfl ⟨by rw [HV.out], hB⟩
        simp [results, Tryd.results15, go_sem]
  · have HV : Hid (adV (bl s) = .tuple #[.int .i64 0, .bool false]) := adV_none (by unfold adRd; rw [← hmap, if_neg (by simpa using h4)])
    have hne : ((ps.length : Int) != 4) = true := by simp; omega
    have hB := (Below.refl w.heap.size w).alloc (Nat.le_refl _) (.cells (Lib.cellsOf ps (min 5 (s.size + 1))) 9)
    clear hL hm hmap hle hbig h4
    go_enter Tryd.func15, Tryd.ntmps15
    go_wp2_with fail
    refine CS.out.mono ?_
    rintro e w1 ⟨rfl, hw1⟩
    rw [← hw1] at hB
    clear hw1 CS
    go_wp2
    refine bodyPost_ret (v := .tuple #[.int .i64 0, .bool false]) ?_ rfl ⟨by rw [HV.out], hB⟩
    simp [results, Tryd.results15, go_sem]
end Go.Proofs.YtgknkhhoelgnhaaDoor
