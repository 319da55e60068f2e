/-
  The law on tables by the first bits of an address: what is found is the act of the rule with the most bits of those that fit.
-/
import Derived.Test.YthmkeodakkdfiaaDtabPrefix
import Derived.Test.YthmkeodakkdfiaaTabFPrefix
import Derived.Test.YthmkeodakkdfiaaTabs1
import Derived.Deep.QuietTactic
namespace Go.Proofs.Ythmkeodakkdfiaa
open Go.RowKit Go.PlainAid
theorem pfTab_iff (l : List PfV) : pfTab l = true ↔ l.length ≤ 32 ∧ (∀ a ∈ l, pfOk a = true) ∧ l.Pairwise (fun a b => pfLt a b = true) := tb_iff pfOrd l ⟨0, 0, 0⟩
def lastF (l : List PfV) (key : Int) (j : Nat) : Option PfV := ((l.take j).filter (fun a => pfFit a key)).getLast?
def bOf : Option PfV → Int
  | none => -1
  | some b => b.bits
def aOf : Option PfV → Int
  | none => 0
  | some b => b.act
theorem lastF_step (l : List PfV) (key : Int) (j : Nat) (h : j < l.length) : lastF l key (j + 1) = if pfFit (pfA l j) key then some (pfA l j) else lastF l key j := by
  unfold lastF
  rw [List.take_succ_eq_append_getElem h, List.filter_append, pfA_eq l j h, List.filter_cons, List.filter_nil]
  cases pfFit l[j] key
  · simp
  · simp
theorem lastF_end (l : List PfV) (key : Int) (h : pfTab l = true) : pfFound l key = aOf (lastF l key l.length) := by
  unfold pfFound pfFilt lastF
  rw [h, if_pos rfl, List.take_length]
  cases (l.filter (fun a => pfFit a key)).getLast? <;> rfl
theorem pf_same {a b : PfV} {key : Int} (ha : pfOk a = true) (hb : pfOk b = true) (fa : pfFit a key = true) (fb' : pfFit b key = true) (he : a.bits = b.bits) : a.addr = b.addr := by
  unfold pfOk at ha hb
  unfold pfFit at fa fb'
  simp only [Bool.and_eq_true, decide_eq_true_eq] at ha hb fa fb'
  obtain ⟨_, ta⟩ := ha
  obtain ⟨_, tb⟩ := hb
  have e : fb a.addr a.bits = fb b.addr b.bits := by rw [← fa.2, ← fb'.2, he]
  have ea : a.addr = fb a.addr a.bits * 2 ^ (32 - a.bits).toNat := ta.symm
  have eb : b.addr = fb b.addr b.bits * 2 ^ (32 - b.bits).toNat := tb.symm
  rw [ea, eb, e, he]
theorem best_lt (l : List PfV) (key : Int) (j : Nat) (h : j < l.length) (ht : pfTab l = true) (hf : pfFit (pfA l j) key = true) : bOf (lastF l key j) < (pfA l j).bits := by
  obtain ⟨_, t2, t3⟩ := (pfTab_iff l).1 ht
  have hoj : pfOk l[j] = true := t2 _ (List.getElem_mem h)
  rw [pfA_eq l j h] at hf ⊢
  cases hl : lastF l key j with
  | none =>
    unfold bOf
    have := hoj
    unfold pfOk at this
    simp only [Bool.and_eq_true] at this
    have := (of_inB this.1.1.2).1
    show (-1 : Int) < _
    omega
  | some b =>
    unfold bOf
    unfold lastF at hl
    have hm := List.mem_of_getLast? hl
    rw [List.mem_filter] at hm
    obtain ⟨hb1, hb2⟩ := hm
    obtain ⟨i, hi, rfl⟩ := List.getElem_of_mem hb1
    have hij : i < j := by simp at hi; omega
    have hil : i < l.length := by omega
    have ei : (l.take j)[i] = l[i] := by simp
    rw [ei] at hb2 ⊢
    have hlt := List.pairwise_iff_getElem.1 t3 i j hil h hij
    have hoi : pfOk l[i] = true := t2 _ (List.getElem_mem hil)
    unfold pfLt at hlt
    rw [decide_eq_true_iff] at hlt
    rcases hlt with hlt | ⟨he, hlt⟩
    · exact hlt
    · have := pf_same hoi hoj hb2 hf he
      omega
set_option maxRecDepth 100000 in
set_option maxHeartbeats 12800000 in
theorem walk_FnPrefixLongest (a : Option Addr) (len cap : Nat) (zs : List Int) (w : World) (w0 : IsRow .u8 w a len cap zs) :
    Calls Try.prog 6 #[.slice a len cap] w fun e w' => e = .returned (.bool true) ∧ Below w.heap.size w w' := by
  have hl := row_len w0
  by_cases hz : 1048576 < len
  · go_enter Try.func6, Try.ntmps6
    go_wp2
    go_ret
    exact ⟨rfl, Below.refl _ _⟩
  have hCo := code_of_row w0 (by omega)
  clear w0
  go_enter Try.func6, Try.ntmps6
  go_wp2_with fail
  refine (big_no _ _ _ _ (by omega)).mono ?_
  rintro e w' ⟨rfl, rfl⟩
  go_wp2_with fail
  refine (d_PrefixFind _ a len cap _ hCo).mono ?_
  rintro e w1 ⟨g, c, l, key, rfl, hL, hll, hlc, hb⟩
  clear hCo
  have CFl : Hid (∀ u : World, IntsAt u (some ⟨g, 0, none⟩) (pfF l) → Calls Try.prog 27 #[.slice (some ⟨g, 0, none⟩) l.length c, .int .i64 key] u fun e w' => e = .returned (.int .i64 (pfFound l key)) ∧ Below u.heap.size u w') := fun u hu => i_PrefixFind (some ⟨g, 0, none⟩) c l key u hu (by omega)
  have CSl : Hid (∀ u : World, IntsAt u (some ⟨g, 0, none⟩) (pfF l) → Calls Try.prog 29 #[.slice (some ⟨g, 0, none⟩) l.length c, .int .i64 key] u fun e w' => e = .returned (.int .i64 (pfFound l key)) ∧ Below u.heap.size u w') := fun u hu => s_PrefixFind (some ⟨g, 0, none⟩) c l key u hu (by omega)
  have CSP : Hid (∀ u : World, IntsAt u (some ⟨g, 0, none⟩) (pfF l) → Calls Try.prog 23 #[.slice (some ⟨g, 0, none⟩) l.length c, .int .i64 0, .int .i64 0, .int .i64 1] u fun e w' => ∃ v, e = .returned (.tuple #[v, .int .i64 (pfLC l 0 0 1)]) ∧ ownR w' u.heap.size 41 3 v (pfLR l 0 0 1).length (pfF (pfLR l 0 0 1)) ∧ Below u.heap.size u w') := fun u hu => s_PrefixPut (some ⟨g, 0, none⟩) c l 0 0 1 u hu (by omega)
  have HC : Hid (pfLC l 0 0 1 = if !(pfTab l && inB 0 0 32 && addrB 0 && actB 1) then 1 else if there pfLt (⟨0, 0, 0⟩ : PfV) l ⟨top 0 0, 0, 1⟩ then 0 else if l.length = 32 then 2 else 0) := pfLC_eq l 0 0 1
  have HN : Hid (pfTab l = false → pfLC l 0 0 1 = 1 ∧ pfFound l key = 0) := fun h => by
    refine ⟨by rw [HC.out, h]; rfl, ?_⟩
    unfold pfFound pfFilt; rw [h]; rfl
  have HY : Hid (pfTab l = true → ¬ pfLC l 0 0 1 = 1) := fun h => by
    rw [HC.out, h, show (inB 0 0 32 : Bool) = true from by decide, show addrB 0 = true from by decide, show actB 1 = true from by decide]
    simp only [Bool.and_self, Bool.not_true, Bool.false_eq_true, if_false]
    split
    · omega
    · split <;> omega
  have HE : Hid (pfTab l = true → pfFound l key = aOf (lastF l key l.length)) := fun h => lastF_end l key h
  clear HC
  generalize pfFound l key = fo at *
  generalize pfLC l 0 0 1 = pc at *
  generalize pfLR l 0 0 1 = pm at *
  have hfo : (fo != fo) = false := by simp
  go_wp2_with fail
  go_at_call 27
  refine (CFl.out _ hL.reads.2).mono ?_
  rintro e w2 ⟨rfl, hbq⟩
  replace hL := hL.far hbq
  replace hb := hb.trans (hbq.mono hb.size)
  clear hbq
  go_wp2_with fail
  go_at_call 29
  refine (CSl.out _ hL.reads.2).mono ?_
  rintro e w3 ⟨rfl, hbq⟩
  replace hL := hL.far hbq
  replace hb := hb.trans (hbq.mono hb.size)
  clear hbq
  by_cases h0 : key < 0
  · clear HN HY HE
    go_wp2_with (go_at_call 29; refine (CSl.out _ hL.reads.2).mono ?_; rintro e w4 ⟨rfl, hbq⟩; replace hb := hb.trans (hbq.mono hb.size); clear hbq)
    go_ret
    exact ⟨rfl, hb⟩
  by_cases h1 : key < 4294967296
  · by_cases h2 : 32 < l.length
    · clear HN HY HE
      go_wp2_with (go_at_call 29; refine (CSl.out _ hL.reads.2).mono ?_; rintro e w4 ⟨rfl, hbq⟩; replace hb := hb.trans (hbq.mono hb.size); clear hbq)
      go_ret
      exact ⟨rfl, hb⟩
    · go_wp2_with fail
      go_at_call 23
      refine (CSP.out _ hL.reads.2).mono ?_
      rintro e w4 ⟨vP, rfl, _, hbq⟩
      replace hL := hL.far hbq
      replace hb := hb.trans (hbq.mono hb.size)
      clear hbq CFl CSl CSP
      cases ht : pfTab l
      · obtain ⟨e1, e2⟩ := HN.out ht
        subst e1 e2
        clear HN HY HE ht
        go_wp2
        go_ret
        exact ⟨rfl, hb⟩
      · have hp1 := HY.out ht
        have hpb : (pc == 1) = false := by simp [hp1]
        have HFo : Hid (fo = aOf (lastF l key l.length)) := HE.out ht
        have HS : Hid (∀ j, j < l.length → lastF l key (j + 1) = if pfFit (pfA l j) key then some (pfA l j) else lastF l key j) := fun j hj => lastF_step l key j hj
        have HB : Hid (∀ j, j < l.length → pfFit (pfA l j) key = true → bOf (lastF l key j) < (pfA l j).bits) := fun j hj hf => best_lt l key j hj ht hf
        have HO : Hid (∀ j, j < l.length → pfOk (pfA l j) = true) := fun j hj => tblB_ok ht hj
        have hka : addrB key = true := inB_true (by omega) (by omega)
        have HFt : Hid (∀ a : PfV, pfFit a key = decide (fb key a.bits = fb a.addr a.bits)) := fun a => by unfold pfFit; rw [hka]; rfl
        have H00 : Hid (lastF l key 0 = none) := rfl
        clear HN HY HE ht hp1
        go_wp2
        go_loopw [10, 8, 9] (fun i bst ac wr => ∃ j : Nat, j ≤ l.length ∧ i = .int .i64 (j : Int) ∧ bst = .int .i64 (bOf (lastF l key j)) ∧ ac = .int .i64 (aOf (lastF l key j)) ∧ Below w4.heap.size w4 wr) (fun i _ _ _ => ((l.length : Int) - intOf i).toNat)
        case atStart => exact ⟨0, by omega, rfl, by rw [H00.out]; rfl, by rw [H00.out]; rfl, Below.refl _ _⟩
        case round =>
          obtain ⟨j, hj, rfl, rfl, rfl, hbr⟩ := hrel
          have hbw := hb.trans (hbr.mono hb.size)
          by_cases hlt : j < l.length
          · have hj1 : (j : Int) < (l.length : Int) := by omega
            have hst := HS.out j hlt
            have hok := HO.out j hlt
            have hbt := HB.out j hlt
            have hft := HFt.out (pfA l j)
            rcases hL.reads.2.below hbr with hI | ⟨g', off', hg1, hg, hcs⟩
            · have := pfF_len l; rw [hI] at this; simp at this; omega
            simp only [Option.some.injEq, Addr.mk.injEq, and_true] at hg1
            obtain ⟨rfl, rfl⟩ := hg1
            have hq := pf_cells hcs j hlt
            simp only [Nat.zero_add] at hq
            obtain ⟨c0, c1, c2⟩ := hq
            clear hcs
            unfold pfOk at hok
            simp only [Bool.and_eq_true] at hok
            obtain ⟨⟨⟨o0, o1⟩, _⟩, _⟩ := hok
            obtain ⟨o2, o3⟩ := of_inB o1
            obtain ⟨o4, o5⟩ := of_inB o0
            clear o0 o1
            generalize pfFit (pfA l j) key = ft at *
            generalize lastF l key j = lo at *
            generalize pfA l j = b at *
            obtain ⟨x, y, z⟩ := b
            simp only [] at *
            have hfb : ∀ q : Int, q / 2 ^ (32 - y).toNat = fb q y := fun q => rfl
            by_cases hq : fb key y = fb x y
            · rw [decide_eq_true hq] at hft
              subst hft
              have hgt := hbt rfl
              have HLn : Hid (lastF l key (j + 1) = some ⟨x, y, z⟩) := by rw [hst]; rfl
              have hqb : (fb key y == fb x y) = true := by simpa using hq
              clear hst hbt hq
              generalize bOf lo = bl0 at *
              generalize aOf lo = al0 at *
              go_wp2_with fail
              go_quiet (fail)
              go_wp2
              go_roundw
              case rel => exact ⟨j + 1, by omega, by go_num, by rw [HLn.out]; rfl, by rw [HLn.out]; rfl, hbr.trans ⟨rfl, rfl, rfl, Nat.le_refl _, fun _ _ => rfl⟩⟩
              case measure => simp [intOf]; omega
            · rw [decide_eq_false hq] at hft
              subst hft
              have HLn : Hid (lastF l key (j + 1) = lo) := by rw [hst]; rfl
              have hqb : (fb key y == fb x y) = false := by simpa using hq
              clear hst hbt hq
              go_wp2_with fail
              go_quiet (fail)
              go_wp2
              go_roundw
              case rel => exact ⟨j + 1, by omega, by go_num, by rw [HLn.out], by rw [HLn.out], hbr.trans ⟨rfl, rfl, rfl, Nat.le_refl _, fun _ _ => rfl⟩⟩
              case measure => simp [intOf]; omega
          · have e : j = l.length := by omega
            subst e
            rw [← HFo.out]
            go_wp2
            go_ret
            exact ⟨by first | rfl | exact ret_bool (by simp), hbw⟩
  · clear HN HY HE
    go_wp2_with (go_at_call 29; refine (CSl.out _ hL.reads.2).mono ?_; rintro e w4 ⟨rfl, hbq⟩; replace hb := hb.trans (hbq.mono hb.size); clear hbq)
    go_ret
    exact ⟨rfl, hb⟩
end Go.Proofs.Ythmkeodakkdfiaa
