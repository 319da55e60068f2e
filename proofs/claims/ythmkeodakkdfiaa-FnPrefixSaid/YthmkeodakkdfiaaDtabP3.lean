/-
  The law on tables by the first bits of an address: a prefix that is put is there for its own address, unless a longer one is; dropped, what is found is as it was ahead without it.
-/
import Derived.Test.YthmkeodakkdfiaaDtabP2
import Derived.Laws.StructEq
namespace Go.Proofs.Ythmkeodakkdfiaa
open Go.RowKit Go.PlainAid
theorem pfput_ok {l : List PfV} {a0 a1 a2 : Int} (h : pfLC l a0 a1 a2 = 0) : pfTab l = true ∧ addrB a0 = true ∧ inB a1 0 32 = true ∧ pfLR l a0 a1 a2 = putL pfLt ⟨0, 0, 0⟩ l ⟨top a0 a1, a1, a2⟩ ∧ pfTab (putL pfLt ⟨0, 0, 0⟩ l ⟨top a0 a1, a1, a2⟩) = true ∧ pfOk ⟨top a0 a1, a1, a2⟩ = true := by
  have e := pfLR_yes l a0 a1 a2 h
  have h2 := h
  rw [pfLC_eq] at h2
  cases ht : pfTab l
  · rw [ht] at h2; simp at h2
  cases hk1 : inB a1 0 32
  · rw [hk1] at h2; simp at h2
  cases hk0 : addrB a0
  · rw [hk0] at h2; simp at h2
  cases hc : actB a2
  · rw [hc] at h2; simp at h2
  rw [ht, hk0, hk1, hc] at h2
  have hok : pfOk ⟨top a0 a1, a1, a2⟩ = true := by
    have := pfOk_R a0 a1 a2
    unfold pfR at this
    rw [hk0, hk1, hc] at this
    simpa using this
  refine ⟨rfl, rfl, rfl, e, ?_, hok⟩
  obtain ⟨t1, t2, t3⟩ := (pfTab_iff l).1 ht
  obtain ⟨q2, q3⟩ := tb_put (ok := pfOk) pfOrd ⟨0, 0, 0⟩ l ⟨top a0 a1, a1, a2⟩ hok t2 t3
  refine (pfTab_iff _).2 ⟨?_, q2, q3⟩
  rw [putL_length]
  cases hth : there pfLt (⟨0, 0, 0⟩ : PfV) l ⟨top a0 a1, a1, a2⟩ with
  | true => simp; exact t1
  | false =>
    rw [hth] at h2
    simp at h2
    simp; omega
def longB (l : List PfV) (a0 a1 : Int) (j : Nat) : Bool := (l.take j).any (fun a => decide (a1 < a.bits) && decide (fb a0 a.bits = fb a.addr a.bits))
theorem longB_step (l : List PfV) (a0 a1 : Int) (j : Nat) (h : j < l.length) : longB l a0 a1 (j + 1) = (longB l a0 a1 j || (decide (a1 < (pfA l j).bits) && decide (fb a0 (pfA l j).bits = fb (pfA l j).addr (pfA l j).bits))) := by
  unfold longB
  rw [List.take_succ_eq_append_getElem h, List.any_append, pfA_eq l j h]; simp
theorem pfFound_last (l : List PfV) (key : Int) (h : pfTab l = true) : pfFound l key = (((l.filter (fun a => pfFit a key)).getLast?).map (·.act)).getD 0 := by
  unfold pfFound pfFilt; rw [h, if_pos rfl]
theorem pf_long {l : List PfV} {a0 a1 a2 : Int} (h : pfLC l a0 a1 a2 = 0) : pfFound (pfLR l a0 a1 a2) a0 = if longB l a0 a1 l.length then pfFound l a0 else a2 := by
  obtain ⟨t, k0, k1, e, t2, ok⟩ := pfput_ok (l := l) (a0 := a0) (a1 := a1) (a2 := a2) h
  obtain ⟨u1, u2, u3⟩ := (pfTab_iff l).1 t
  rw [e, pfFound_last (putL pfLt ⟨0, 0, 0⟩ l ⟨top a0 a1, a1, a2⟩) a0 t2, pfFound_last l a0 t, put_parts (lt := pfLt) ⟨0, 0, 0⟩ l ⟨top a0 a1, a1, a2⟩]
  have hl : l = pP pfLt l ⟨top a0 a1, a1, a2⟩ ++ (pM pfLt ⟨0, 0, 0⟩ l ⟨top a0 a1, a1, a2⟩ ++ pB pfLt ⟨0, 0, 0⟩ l ⟨top a0 a1, a1, a2⟩) := parts (lt := pfLt) ⟨0, 0, 0⟩ l ⟨top a0 a1, a1, a2⟩
  have hfr : pfFit ⟨top a0 a1, a1, a2⟩ a0 = true := by
    unfold pfFit
    rw [k0, Bool.true_and, decide_eq_true_iff]
    have q0 := (of_inB k1).1
    have := fb_top (a := a0) (b := a1) (c := top a0 a1) q0 (top_top q0)
    show fb a0 a1 = fb (top a0 a1) a1
    rw [this]
  have fP : ∀ a ∈ pP pfLt l ⟨top a0 a1, a1, a2⟩, pfLt a ⟨top a0 a1, a1, a2⟩ = true := fun a ha => mem_pP ha
  have fB : ∀ a ∈ pB pfLt ⟨0, 0, 0⟩ l ⟨top a0 a1, a1, a2⟩, pfLt ⟨top a0 a1, a1, a2⟩ a = true := fun a ha => mem_pB pfOrd u3 ha
  have fM : ∀ a ∈ pM pfLt ⟨0, 0, 0⟩ l ⟨top a0 a1, a1, a2⟩, pfLt a ⟨top a0 a1, a1, a2⟩ = false ∧ pfLt ⟨top a0 a1, a1, a2⟩ a = false := fun a ha => mem_pM ha
  have mB : ∀ a ∈ pB pfLt ⟨0, 0, 0⟩ l ⟨top a0 a1, a1, a2⟩, a ∈ l := fun a ha => by rw [hl]; exact List.mem_append_right _ (List.mem_append_right _ ha)
  have mP : ∀ a ∈ pP pfLt l ⟨top a0 a1, a1, a2⟩, a ∈ l := fun a ha => by rw [hl]; exact List.mem_append_left _ ha
  generalize pP pfLt l ⟨top a0 a1, a1, a2⟩ = P at *
  generalize pM pfLt ⟨0, 0, 0⟩ l ⟨top a0 a1, a1, a2⟩ = M at *
  generalize pB pfLt ⟨0, 0, 0⟩ l ⟨top a0 a1, a1, a2⟩ = Bq at *
  have hbits : ∀ a ∈ Bq, pfFit a a0 = true → a1 < a.bits := fun a ha hf => by
    have hlt := fB a ha
    unfold pfLt at hlt
    rw [decide_eq_true_iff] at hlt
    rcases hlt with hlt | ⟨he, hlt⟩
    · exact hlt
    · have := pf_same ok (u2 a (mB a ha)) hfr hf he
      simp only [] at this hlt
      omega
  have hfit : ∀ a : PfV, pfFit a a0 = decide (fb a0 a.bits = fb a.addr a.bits) := fun a => by unfold pfFit; rw [k0]; rfl
  cases hlg : longB l a0 a1 l.length with
  | true =>
    rw [if_pos rfl]
    unfold longB at hlg
    rw [List.take_length, List.any_eq_true] at hlg
    obtain ⟨x, hx, hx2⟩ := hlg
    rw [Bool.and_eq_true, decide_eq_true_iff] at hx2
    have hxB : x ∈ Bq := by
      rw [hl, List.mem_append, List.mem_append] at hx
      rcases hx with hx | hx | hx
      · have := fP x hx
        unfold pfLt at this; rw [decide_eq_true_iff] at this
        simp only [] at this; omega
      · have := (fM x hx).2
        unfold pfLt at this; rw [decide_eq_false_iff_not] at this
        simp only [] at this; omega
      · exact hx
    have hne : Bq.filter (fun a => pfFit a a0) ≠ [] := by
      intro hh
      rw [List.filter_eq_nil_iff] at hh
      exact hh x hxB (by rw [hfit]; exact hx2.2)
    rw [hl]
    simp only [List.filter_append, List.getLast?_append]
    cases hB : (Bq.filter (fun a => pfFit a a0)).getLast? with
    | none => exact absurd (List.getLast?_eq_none_iff.1 hB) hne
    | some y => rfl
  | false =>
    rw [if_neg (by simp)]
    have hnil : Bq.filter (fun a => pfFit a a0) = [] := by
      rw [List.filter_eq_nil_iff]
      intro a ha hf
      unfold longB at hlg
      rw [List.take_length, List.any_eq_false] at hlg
      exact hlg a (mB a ha) (by rw [Bool.and_eq_true, decide_eq_true_iff, ← hfit]; exact ⟨hbits a ha hf, hf⟩)
    rw [List.filter_append, List.filter_append, hnil, List.append_nil, List.filter_cons, if_pos hfr, List.filter_nil]
    simp
theorem pf_drop_eq {l : List PfV} {a0 a1 a2 : Int} (h : pfLC l a0 a1 a2 = 0) : pfLD (pfLR l a0 a1 a2) a0 a1 = pfLD l a0 a1 := by
  obtain ⟨t, k0, k1, e, t2, ok⟩ := pfput_ok (l := l) (a0 := a0) (a1 := a1) (a2 := a2) h
  have u3 := ((pfTab_iff l).1 t).2.2
  have eR : pfR a0 a1 0 = ⟨top a0 a1, a1, 0⟩ := by unfold pfR; rw [k0, k1]; rfl
  rw [e]
  unfold pfLD
  rw [eR]
  generalize hr : (⟨top a0 a1, a1, a2⟩ : PfV) = r at *
  have hne : ∀ a : PfV, ne pfLt a ⟨top a0 a1, a1, 0⟩ = ne pfLt a r := fun a => by rw [← hr]; rfl
  have hrr : ne pfLt r r = false := by unfold ne; rw [pfOrd.irr]; rfl
  have f1 : ∀ a ∈ pP pfLt l r, ne pfLt a r = true := fun a ha => by unfold ne; rw [mem_pP ha]; rfl
  have f2 : ∀ a ∈ pB pfLt ⟨0, 0, 0⟩ l r, ne pfLt a r = true := fun a ha => by unfold ne; rw [mem_pB pfOrd u3 ha]; simp
  have f3 : ∀ a ∈ pM pfLt ⟨0, 0, 0⟩ l r, ne pfLt a r = false := fun a ha => by unfold ne; rw [(mem_pM ha).1, (mem_pM ha).2]; rfl
  have d1 : pfDropR l ⟨top a0 a1, a1, 0⟩ = pP pfLt l r ++ pB pfLt ⟨0, 0, 0⟩ l r := by
    unfold pfDropR
    rw [t, if_pos rfl, ← drop_filter pfOrd l _ ⟨0, 0, 0⟩ (pfSorted t)]
    conv => lhs; rw [parts (lt := pfLt) ⟨0, 0, 0⟩ l r]
    rw [List.filter_append, List.filter_append, List.filter_eq_self.2 (fun a ha => by rw [hne]; exact f1 a ha), List.filter_eq_nil_iff.2 (fun a ha => by rw [hne, f3 a ha]; simp), List.filter_eq_self.2 (fun a ha => by rw [hne]; exact f2 a ha), List.nil_append]
  have d2 : pfDropR (putL pfLt ⟨0, 0, 0⟩ l r) ⟨top a0 a1, a1, 0⟩ = pP pfLt l r ++ pB pfLt ⟨0, 0, 0⟩ l r := by
    unfold pfDropR
    rw [t2, if_pos rfl, ← drop_filter pfOrd (putL pfLt ⟨0, 0, 0⟩ l r) _ ⟨0, 0, 0⟩ (pfSorted t2), put_parts (lt := pfLt) ⟨0, 0, 0⟩ l r]
    rw [List.filter_append, List.filter_append, List.filter_eq_self.2 (fun a ha => by rw [hne]; exact f1 a ha), List.filter_eq_nil_iff.2 (fun a ha => by simp at ha; rw [ha, hne, hrr]; simp), List.filter_eq_self.2 (fun a ha => by rw [hne]; exact f2 a ha), List.nil_append]
  rw [d1, d2]
theorem nePrefix (a b c : Int) (w : World) : (binOp .neq 41 (.agg #[.int .i64 a, .int .i64 b, .int .i64 c]) (.agg #[.int .i64 a, .int .i64 b, .int .i64 c])).run Try.prog w = .ok (.bool false) w := by
  have u3 := Try.underlying2
  have a3 := Try.isAgg2
  have z3 := Try.sizeOf2
  have hS : Try.prog.underlying 41 = some (.struct (Try.prog.fieldsOf 41)) := by kernel_rfl
  have hp : Try.prog.stoodInHeld 41 = false := by kernel_rfl
  rw [run_neq_struct w, show (10000 : Nat) = 9999 + 1 from rfl, run_equalIn_agg w 9999 41 _ _ hS hp]
  simp only [Program.fieldsOf, Try.underlying41]
  go_simp
set_option maxRecDepth 100000 in
set_option maxHeartbeats 1600000 in
theorem l_samePrefixes (T U : Option Addr) (c e : Nat) (l : List PfV) (w : World) (h : IntsAt w T (pfF l)) (k : IntsAt w U (pfF l)) (hl : l.length ≤ 1099511627776) :
    Calls Try.prog 25 #[.slice T l.length c, .slice U l.length e] w fun e w' => e = .returned (.bool true) ∧ Below w.heap.size w w' := by
  have hnn : ((l.length : Int) != (l.length : Int)) = false := by simp
  go_enter Try.func25, Try.ntmps25
  go_wp2
  go_loopw [5] (fun i wr => ∃ j : Nat, j ≤ l.length ∧ i = .int .i64 (j : Int) ∧ Below w.heap.size w wr) (fun i _ => ((l.length : Int) - intOf i).toNat)
  case atStart => exact ⟨0, by omega, rfl, Below.refl _ _⟩
  case round =>
    obtain ⟨j, hj, rfl, hb⟩ := hrel
    by_cases hlt : j < l.length
    · rcases h.below hb with h | ⟨g, off, rfl, hg, hc⟩
      · have := pfF_len l; rw [h] at this; simp at this; omega
      · rcases k.below hb with k | ⟨g2, off2, rfl, hg2, hc2⟩
        · have := pfF_len l; rw [k] at this; simp at this; omega
        · have hj1 : (j : Int) < (l.length : Int) := by omega
          have hcs := pf_cells hc j hlt
          have hcs2 := pf_cells hc2 j hlt
          clear hc hc2
          generalize pfA l j = b at *
          obtain ⟨x, y, z⟩ := b
          have hq := nePrefix x y z
          go_wp2_with fail
          go_quiet (fail)
          go_wp2
          go_roundw
          case rel => exact ⟨j + 1, by omega, by go_num, hb.trans ⟨rfl, rfl, rfl, Nat.le_refl _, fun _ _ => rfl⟩⟩
          case measure => simp [intOf]; omega
    · go_wp2
      go_ret
      exact ⟨rfl, hb⟩
set_option maxRecDepth 100000 in
set_option maxHeartbeats 12800000 in
theorem walk_FnPrefix (a : Option Addr) (len cap : Nat) (zs : List Int) (w : World) (w0 : IsRow .u8 w a len cap zs) :
    Calls Try.prog 5 #[.slice a len cap] w fun e w' => e = .returned (.bool true) ∧ Below w.heap.size w w' := by
  have hl := row_len w0
  by_cases hz : 1048576 < len
  · go_enter Try.func5, Try.ntmps5
    go_wp2
    go_ret
    exact ⟨rfl, Below.refl _ _⟩
  have hCo := code_of_row w0 (by omega)
  clear w0
  go_enter Try.func5, Try.ntmps5
  go_wp2_with fail
  refine (big_no _ _ _ _ (by omega)).mono ?_
  rintro e w' ⟨rfl, rfl⟩
  go_wp2_with fail
  refine (d_PrefixPut _ a len cap _ hCo).mono ?_
  rintro e w1 ⟨g, c, l, a0, a1, a2, rfl, hL, hll, hlc, _, _, hb⟩
  clear hCo
  have CIP : Hid (∀ u : World, IntsAt u (some ⟨g, 0, none⟩) (pfF l) → Calls Try.prog 22 #[.slice (some ⟨g, 0, none⟩) l.length c, .int .i64 a0, .int .i64 a1, .int .i64 a2] u fun e w' => ∃ v, e = .returned (.tuple #[v, .int .i64 (pfLC l a0 a1 a2)]) ∧ ownR w' u.heap.size 41 3 v (pfLR l a0 a1 a2).length (pfF (pfLR l a0 a1 a2)) ∧ Below u.heap.size u w') := fun u hu => i_PrefixPut g 0 c l a0 a1 a2 u hu hlc (by omega)
  have CSP : Hid (∀ u : World, IntsAt u (some ⟨g, 0, none⟩) (pfF l) → Calls Try.prog 23 #[.slice (some ⟨g, 0, none⟩) l.length c, .int .i64 a0, .int .i64 a1, .int .i64 a2] u fun e w' => ∃ v, e = .returned (.tuple #[v, .int .i64 (pfLC l a0 a1 a2)]) ∧ ownR w' u.heap.size 41 3 v (pfLR l a0 a1 a2).length (pfF (pfLR l a0 a1 a2)) ∧ Below u.heap.size u w') := fun u hu => s_PrefixPut (some ⟨g, 0, none⟩) c l a0 a1 a2 u hu (by omega)
  have CID : Hid (∀ u : World, IntsAt u (some ⟨g, 0, none⟩) (pfF l) → Calls Try.prog 24 #[.slice (some ⟨g, 0, none⟩) l.length c, .int .i64 a0, .int .i64 a1] u fun e w' => ∃ v, e = .returned v ∧ ownR w' u.heap.size 41 3 v (pfLD l a0 a1).length (pfF (pfLD l a0 a1)) ∧ Below u.heap.size u w') := fun u hu => i_PrefixDrop g 0 c l a0 a1 u hu hlc (by omega)
  have CSD : Hid (∀ u : World, IntsAt u (some ⟨g, 0, none⟩) (pfF l) → Calls Try.prog 26 #[.slice (some ⟨g, 0, none⟩) l.length c, .int .i64 a0, .int .i64 a1] u fun e w' => ∃ v, e = .returned v ∧ ownR w' u.heap.size 41 3 v (pfLD l a0 a1).length (pfF (pfLD l a0 a1)) ∧ Below u.heap.size u w') := fun u hu => s_PrefixDrop (some ⟨g, 0, none⟩) c l a0 a1 u hu (by omega)
  have hpl := pfPut_len l a0 a1 a2
  have hdl := pfDrop_len l a0 a1
  have CMS : Hid (∀ (S1 S2 : Option Addr) (c1 c2 : Nat) (u : World), IntsAt u S1 (pfF (pfLR l a0 a1 a2)) → IntsAt u S2 (pfF (pfLR l a0 a1 a2)) → Calls Try.prog 25 #[.slice S1 (pfLR l a0 a1 a2).length c1, .slice S2 (pfLR l a0 a1 a2).length c2] u fun e w' => e = .returned (.bool true) ∧ Below u.heap.size u w') := fun S1 S2 c1 c2 u h1 h2 => l_samePrefixes S1 S2 c1 c2 (pfLR l a0 a1 a2) u h1 h2 (by omega)
  have CMD : Hid (∀ (S1 S2 : Option Addr) (c1 c2 : Nat) (u : World), IntsAt u S1 (pfF (pfLD l a0 a1)) → IntsAt u S2 (pfF (pfLD l a0 a1)) → Calls Try.prog 25 #[.slice S1 (pfLD l a0 a1).length c1, .slice S2 (pfLD l a0 a1).length c2] u fun e w' => e = .returned (.bool true) ∧ Below u.heap.size u w') := fun S1 S2 c1 c2 u h1 h2 => l_samePrefixes S1 S2 c1 c2 (pfLD l a0 a1) u h1 h2 (by omega)
  have CFm : Hid (pfLC l a0 a1 a2 = 0 → ∀ (S : Option Addr) (cm : Nat) (u : World), IntsAt u S (pfF (pfLR l a0 a1 a2)) → Calls Try.prog 27 #[.slice S (pfLR l a0 a1 a2).length cm, .int .i64 a0] u fun e w' => e = .returned (.int .i64 (if longB l a0 a1 l.length then pfFound l a0 else a2)) ∧ Below u.heap.size u w') := fun h S cm u hu => by
    have := i_PrefixFind S cm (pfLR l a0 a1 a2) a0 u hu (by omega)
    rw [pf_long (l := l) (a0 := a0) (a1 := a1) (a2 := a2) h] at this; exact this
  have CDm : Hid (pfLC l a0 a1 a2 = 0 → ∀ (gm cm : Nat) (u : World), (pfLR l a0 a1 a2).length ≤ cm → IntsAt u (some ⟨gm, 0, none⟩) (pfF (pfLR l a0 a1 a2)) → Calls Try.prog 24 #[.slice (some ⟨gm, 0, none⟩) (pfLR l a0 a1 a2).length cm, .int .i64 a0, .int .i64 a1] u fun e w' => ∃ v, e = .returned v ∧ ownR w' u.heap.size 41 3 v (pfLD l a0 a1).length (pfF (pfLD l a0 a1)) ∧ Below u.heap.size u w') := fun h gm cm u hc hu => by
    have := i_PrefixDrop gm 0 cm (pfLR l a0 a1 a2) a0 a1 u hu hc (by omega)
    rw [pf_drop_eq (l := l) (a0 := a0) (a1 := a1) (a2 := a2) h] at this; exact this
  have CFl : Hid (∀ u : World, IntsAt u (some ⟨g, 0, none⟩) (pfF l) → Calls Try.prog 27 #[.slice (some ⟨g, 0, none⟩) l.length c, .int .i64 a0] u fun e w' => e = .returned (.int .i64 (pfFound l a0)) ∧ Below u.heap.size u w') := fun u hu => i_PrefixFind (some ⟨g, 0, none⟩) c l a0 u hu (by omega)
  have HP1 : Hid (pfLC l a0 a1 a2 = 0 → 1 ≤ (pfLR l a0 a1 a2).length) := fun h => pfPut_pos l a0 a1 a2 h
  have HOK : Hid (pfLC l a0 a1 a2 = 0 → 0 ≤ a0 ∧ a0 ≤ 4294967295 ∧ 0 ≤ a1 ∧ a1 ≤ 32 ∧ ∀ j, j < l.length → pfOk (pfA l j) = true) := fun h => by
    obtain ⟨t, k0, k1, _⟩ := pfput_ok (l := l) (a0 := a0) (a1 := a1) (a2 := a2) h
    exact ⟨(of_inB k0).1, (of_inB k0).2, (of_inB k1).1, (of_inB k1).2, fun j hj => tblB_ok t hj⟩
  have HLS : Hid (∀ j, j < l.length → longB l a0 a1 (j + 1) = (longB l a0 a1 j || (decide (a1 < (pfA l j).bits) && decide (fb a0 (pfA l j).bits = fb (pfA l j).addr (pfA l j).bits)))) := fun j hj => longB_step l a0 a1 j hj
  generalize pfFound l a0 = fo at *
  generalize pfLC l a0 a1 a2 = pc at *
  generalize pfLR l a0 a1 a2 = pm at *
  generalize pfLD l a0 a1 = pd at *
  have hpc : (pc != pc) = false := by simp
  go_wp2_with fail
  go_at_call 22
  refine (CIP.out _ hL.reads.2).mono ?_
  rintro e w2 ⟨vM, rfl, hM, hbq⟩
  have hMs := hM.shape
  replace hL := hL.far hbq
  replace hb := hb.trans (hbq.mono hb.size)
  clear hbq
  go_wp2_with fail
  go_at_call 23
  refine (CSP.out _ hL.reads.2).mono ?_
  rintro e w3 ⟨vW, rfl, hW, hbq⟩
  obtain ⟨TW, cW, rfl⟩ := hW.form
  replace hL := hL.far hbq
  replace hM := hM.far hbq
  replace hb := hb.trans (hbq.mono hb.size)
  clear hbq
  go_wp2_with fail
  go_at_call 24
  refine (CID.out _ hL.reads.2).mono ?_
  rintro e w4 ⟨vD, rfl, hD, hbq⟩
  obtain ⟨TD, cD, rfl⟩ := hD.form
  replace hL := hL.far hbq
  replace hM := hM.far hbq
  replace hW := hW.far hbq
  replace hb := hb.trans (hbq.mono hb.size)
  clear hbq
  by_cases hk : pc = 0
  · subst hk
    have hp1 := HP1.out (by trivial)
    rcases hMs with ⟨_, hn, _⟩ | ⟨gm, cm, rfl, _, _, hcm, _⟩
    · omega
    go_wp2_with fail
    go_at_call 25
    refine (CMS.out _ _ _ _ _ hM.reads.2 hW.reads.2).mono ?_
    rintro e w5 ⟨rfl, hbq⟩
    replace hL := hL.far hbq
    replace hM := hM.far hbq
    replace hW := hW.far hbq
    replace hD := hD.far hbq
    replace hb := hb.trans (hbq.mono hb.size)
    clear hbq
    go_wp2_with fail
    go_at_call 26
    refine (CSD.out _ hL.reads.2).mono ?_
    rintro e w6 ⟨vE5, rfl, hE5, hbq⟩
    obtain ⟨TE5, cE5, rfl⟩ := hE5.form
    replace hL := hL.far hbq
    replace hM := hM.far hbq
    replace hW := hW.far hbq
    replace hD := hD.far hbq
    replace hb := hb.trans (hbq.mono hb.size)
    clear hbq
    go_wp2_with fail
    go_at_call 25
    refine (CMD.out _ _ _ _ _ hD.reads.2 hE5.reads.2).mono ?_
    rintro e w7 ⟨rfl, hbq⟩
    clear hE5
    replace hL := hL.far hbq
    replace hM := hM.far hbq
    replace hW := hW.far hbq
    replace hD := hD.far hbq
    replace hb := hb.trans (hbq.mono hb.size)
    clear hbq
    obtain ⟨z0, z1, z2, z3, hoks⟩ := HOK.out (by trivial)
    have HO : Hid (∀ j, j < l.length → pfOk (pfA l j) = true) := hoks
    clear CIP CSP CID CSD CMS HP1 HOK hoks hW
    go_wp2
    go_loopw [13, 12] (fun i n wr => ∃ j : Nat, j ≤ l.length ∧ i = .int .i64 (j : Int) ∧ n = .bool (longB l a0 a1 j) ∧ Below w7.heap.size w7 wr) (fun i _ _ => ((l.length : Int) - intOf i).toNat)
    case atStart => exact ⟨0, by omega, rfl, rfl, Below.refl _ _⟩
    case round =>
      obtain ⟨j, hj, rfl, rfl, hbr⟩ := hrel
      by_cases hlt : j < l.length
      · have hj1 : (j : Int) < (l.length : Int) := by omega
        have hst := HLS.out j hlt
        have hok := HO.out j hlt
        rcases (hL.far hbr).reads.2 with hI | ⟨g', off', hg1, hg, hcs⟩
        · have := pfF_len l; rw [hI] at this; simp at this; omega
        simp only [Option.some.injEq, Addr.mk.injEq, and_true] at hg1
        obtain ⟨rfl, rfl⟩ := hg1
        have hq := pf_cells hcs j hlt
        simp only [Nat.zero_add] at hq
        obtain ⟨c0, c1, c2⟩ := hq
        clear hcs
        unfold pfOk at hok
        simp only [Bool.and_eq_true] at hok
        obtain ⟨⟨⟨o0, o1⟩, _⟩, _⟩ := hok
        obtain ⟨o2, o3⟩ := of_inB o1
        obtain ⟨o4, o5⟩ := of_inB o0
        clear o0 o1
        generalize pfA l j = b at *
        obtain ⟨x, y, z⟩ := b
        simp only [] at *
        have hfb : ∀ q : Int, q / 2 ^ (32 - y).toNat = fb q y := fun q => rfl
        by_cases hb1 : a1 < y
        · rw [decide_eq_true hb1] at hst
          by_cases hq : fb a0 y = fb x y
          · rw [decide_eq_true hq] at hst
            have HLn : Hid (longB l a0 a1 (j + 1) = true) := by show _ = _; rw [hst]; simp
            have hqb : (fb a0 y == fb x y) = true := by simpa using hq
            clear hst hq
            go_wp2_with fail
            go_quiet (fail)
            go_wp2
            go_roundw
            case rel => exact ⟨j + 1, by omega, by go_num, by rw [HLn.out], hbr.trans ⟨rfl, rfl, rfl, Nat.le_refl _, fun _ _ => rfl⟩⟩
            case measure => simp [intOf]; omega
          · rw [decide_eq_false hq] at hst
            have HLn : Hid (longB l a0 a1 (j + 1) = longB l a0 a1 j) := by show _ = _; rw [hst]; simp
            have hqb : (fb a0 y == fb x y) = false := by simpa using hq
            clear hst hq
            go_wp2_with fail
            go_quiet (fail)
            go_wp2
            go_roundw
            case rel => exact ⟨j + 1, by omega, by go_num, by rw [HLn.out], hbr.trans ⟨rfl, rfl, rfl, Nat.le_refl _, fun _ _ => rfl⟩⟩
            case measure => simp [intOf]; omega
        · have hb1d : decide (a1 < y) = false := decide_eq_false hb1
          rw [decide_eq_false hb1] at hst
          have HLn : Hid (longB l a0 a1 (j + 1) = longB l a0 a1 j) := by show _ = _; rw [hst]; simp
          clear hst
          go_wp2_with fail
          go_quiet (fail)
          go_wp2
          go_roundw
          case rel => exact ⟨j + 1, by omega, by go_num, by rw [HLn.out], hbr.trans ⟨rfl, rfl, rfl, Nat.le_refl _, fun _ _ => rfl⟩⟩
          case measure => simp [intOf]; omega
      · have e : j = l.length := by omega
        subst e
        replace hL := hL.far hbr
        replace hM := hM.far hbr
        replace hD := hD.far hbr
        replace hb := hb.trans (hbr.mono hb.size)
        clear hbr
        cases hlg : longB l a0 a1 l.length
        · rw [hlg, if_neg (by simp)] at CFm
          go_wp2_with fail
          go_at_call 27
          refine (CFm.out (by trivial) _ _ _ hM.reads.2).mono ?_
          rintro e w20 ⟨rfl, hbq⟩
          replace hL := hL.far hbq
          replace hM := hM.far hbq
          replace hD := hD.far hbq
          replace hb := hb.trans (hbq.mono hb.size)
          clear hbq
          go_wp2_with fail
          go_at_call 24
          refine (CDm.out (by trivial) _ _ _ hcm hM.reads.2).mono ?_
          rintro e w21 ⟨vZ, rfl, hZ, hbq⟩
          obtain ⟨TZ, cZ, rfl⟩ := hZ.form
          replace hD := hD.far hbq
          replace hb := hb.trans (hbq.mono hb.size)
          clear hbq
          go_wp2_with fail
          go_at_call 25
          refine (CMD.out _ _ _ _ _ hZ.reads.2 hD.reads.2).mono ?_
          rintro e w22 ⟨rfl, hbq⟩
          replace hb := hb.trans (hbq.mono hb.size)
          clear hbq
          go_wp2
          go_ret
          exact ⟨rfl, hb⟩
        · rw [hlg, if_pos rfl] at CFm
          go_wp2_with fail
          go_at_call 27
          refine (CFm.out (by trivial) _ _ _ hM.reads.2).mono ?_
          rintro e w20 ⟨rfl, hbq⟩
          replace hL := hL.far hbq
          replace hM := hM.far hbq
          replace hD := hD.far hbq
          replace hb := hb.trans (hbq.mono hb.size)
          clear hbq
          go_wp2_with fail
          go_at_call 27
          refine (CFl.out _ hL.reads.2).mono ?_
          rintro e w23 ⟨rfl, hbq⟩
          replace hM := hM.far hbq
          replace hD := hD.far hbq
          replace hb := hb.trans (hbq.mono hb.size)
          clear hbq
          go_wp2_with fail
          go_at_call 24
          refine (CDm.out (by trivial) _ _ _ hcm hM.reads.2).mono ?_
          rintro e w21 ⟨vZ, rfl, hZ, hbq⟩
          obtain ⟨TZ, cZ, rfl⟩ := hZ.form
          replace hD := hD.far hbq
          replace hb := hb.trans (hbq.mono hb.size)
          clear hbq
          go_wp2_with fail
          go_at_call 25
          refine (CMD.out _ _ _ _ _ hZ.reads.2 hD.reads.2).mono ?_
          rintro e w22 ⟨rfl, hbq⟩
          replace hb := hb.trans (hbq.mono hb.size)
          clear hbq
          go_wp2
          go_ret
          exact ⟨rfl, hb⟩
  · have hkb : (pc != 0) = true := by simpa using hk
    obtain ⟨TM, cM, rfl⟩ := hM.form
    go_wp2_with fail
    go_at_call 25
    refine (CMS.out _ _ _ _ _ hM.reads.2 hW.reads.2).mono ?_
    rintro e w5 ⟨rfl, hbq⟩
    replace hL := hL.far hbq
    replace hM := hM.far hbq
    replace hW := hW.far hbq
    replace hD := hD.far hbq
    replace hb := hb.trans (hbq.mono hb.size)
    clear hbq
    go_wp2_with fail
    go_at_call 26
    refine (CSD.out _ hL.reads.2).mono ?_
    rintro e w6 ⟨vE5, rfl, hE5, hbq⟩
    obtain ⟨TE5, cE5, rfl⟩ := hE5.form
    replace hL := hL.far hbq
    replace hM := hM.far hbq
    replace hW := hW.far hbq
    replace hD := hD.far hbq
    replace hb := hb.trans (hbq.mono hb.size)
    clear hbq
    go_wp2_with fail
    go_at_call 25
    refine (CMD.out _ _ _ _ _ hD.reads.2 hE5.reads.2).mono ?_
    rintro e w7 ⟨rfl, hbq⟩
    clear hE5
    replace hL := hL.far hbq
    replace hM := hM.far hbq
    replace hW := hW.far hbq
    replace hD := hD.far hbq
    replace hb := hb.trans (hbq.mono hb.size)
    clear hbq
    go_wp2_with fail
    go_at_call 25
    refine (CMS.out _ _ _ _ _ hM.reads.2 hW.reads.2).mono ?_
    rintro e w8 ⟨rfl, hbq⟩
    replace hL := hL.far hbq
    replace hM := hM.far hbq
    replace hW := hW.far hbq
    replace hD := hD.far hbq
    replace hb := hb.trans (hbq.mono hb.size)
    clear hbq
    go_wp2_with fail
    go_at_call 26
    refine (CSD.out _ hL.reads.2).mono ?_
    rintro e w9 ⟨vE8, rfl, hE8, hbq⟩
    obtain ⟨TE8, cE8, rfl⟩ := hE8.form
    replace hL := hL.far hbq
    replace hM := hM.far hbq
    replace hW := hW.far hbq
    replace hD := hD.far hbq
    replace hb := hb.trans (hbq.mono hb.size)
    clear hbq
    go_wp2_with fail
    go_at_call 25
    refine (CMD.out _ _ _ _ _ hD.reads.2 hE8.reads.2).mono ?_
    rintro e w10 ⟨rfl, hbq⟩
    clear hE8
    replace hb := hb.trans (hbq.mono hb.size)
    clear hbq
    go_wp2
    go_ret
    exact ⟨rfl, hb⟩
end Go.Proofs.Ythmkeodakkdfiaa
