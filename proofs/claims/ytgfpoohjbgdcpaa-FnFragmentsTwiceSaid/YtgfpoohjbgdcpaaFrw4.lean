/-
  The walk of the law FnFragmentsTwice.
-/
import Derived.Test.YtgfpoohjbgdcpaaFrw3
import Derived.Test.YtgfpoohjbgdcpaaFrp2
import Derived.Test.YtgfpoohjbgdcpaaRin2
namespace Go.Proofs.Ytgfpoohjbgdcpaa
open Go.RowKit Go.PlainAid
theorem l_byteOfS (B : Nat) (C : Option Addr) (len cap : Nat) (i : Nat) (w : World) (hi : i ≤ 1000) (h : Code w B C len) :
    ∃ x : Int, 0 ≤ x ∧ x ≤ 255 ∧ ∀ u : World, Below B w u → Calls Try.prog 23 #[.slice C len cap, .int .i64 (i : Int)] u fun e w' => e = .returned (.int .i64 x) ∧ w' = u := by
  obtain ⟨h0, h1, h2⟩ := h
  by_cases hz : len = 0
  · subst hz
    refine ⟨0, by omega, by omega, fun u _ => ?_⟩
    go_enter Try.func23, Try.ntmps23
    go_wp2
    go_ret
    exact ⟨rfl, rfl⟩
  · rcases h2 with h2 | ⟨g, off, rfl, hg, hc⟩
    · omega
    · have hm : i % len < len := Nat.mod_lt _ (by omega)
      obtain ⟨c, c0, c1, hcell0⟩ := hc (i % len) hm
      refine ⟨c, c0, c1, fun u hu => ?_⟩
      have hcell := (hu.cell (p := ⟨g, off + i % len, none⟩) hg).trans hcell0
      have e1 : ((i : Int) % (len : Int)) = ((i % len : Nat) : Int) := by simp
      have hne : ((len : Int) == 0) = false := by simp; omega
      generalize i % len = m at hm hcell e1
      clear hc hcell0
      go_enter Try.func23, Try.ntmps23
      go_wp2
      go_ret
      exact ⟨rfl, rfl⟩
def tw4F (B0 g off j n cG : Nat) (C : Option Addr) (len cap : Nat) (bx : Int) (q : IpV) : Nat → Value → World → Prop
  | 0, x, _ => x = .slice (some ⟨g, off, none⟩) n cG
  | 1, x, _ => x = .int .i64 (j : Int)
  | 2, x, _ => x = .pointer (some ⟨g, off + j * 11, none⟩)
  | 3, x, _ => x = .agg #[.int .i64 q.tos, .int .i64 q.id, .bool q.df, .bool q.mf, .int .i64 q.off, .int .i64 q.ttl, .int .i64 q.pro, .int .i64 q.src, .int .i64 q.dst, .string q.opts, .string q.data]
  | 4, x, _ => x = .slice C len cap
  | 5, x, _ => x = .int .i64 bx
  | 6, x, _ => x = .int .i64 (bx % 40)
  | 7, x, _ => x = .int .i64 (68 + bx % 40)
  | 8, x, u => ∃ y, x = .tuple #[y, .int .i64 0] ∧ ownV u B0 28 11 y (frL q (68 + bx % 40)).length (iqF (frL q (68 + bx % 40)))
  | 9, x, u => ∃ y, x = .tuple #[y, .int .i64 0] ∧ ownV u B0 28 11 y (frL q (68 + bx % 40)).length (iqF (frL q (68 + bx % 40)))
  | 10, x, u => ownV u B0 28 11 x (frL q (68 + bx % 40)).length (iqF (frL q (68 + bx % 40)))
  | 11, x, _ => x = .int .i64 0
  | 12, x, u => ownV u B0 28 11 x (frL q (68 + bx % 40)).length (iqF (frL q (68 + bx % 40)))
  | 13, x, _ => x = .int .i64 0
  | _ + 14, _, _ => True
theorem tw4F_far {B0 g off j n cG : Nat} {C : Option Addr} {len cap : Nat} {bx : Int} {q : IpV} {u u1 : World} (hb : Below u.heap.size u u1) : ∀ (i : Nat) (x : Value), tw4F B0 g off j n cG C len cap bx q i x u → tw4F B0 g off j n cG C len cap bx q i x u1
  | 0, _, h => h
  | 1, _, h => h
  | 2, _, h => h
  | 3, _, h => h
  | 4, _, h => h
  | 5, _, h => h
  | 6, _, h => h
  | 7, _, h => h
  | 8, _, ⟨y, e, h⟩ => ⟨y, e, h.far hb⟩
  | 9, _, ⟨y, e, h⟩ => ⟨y, e, h.far hb⟩
  | 10, _, h => ownV.far h hb
  | 11, _, h => h
  | 12, _, h => ownV.far h hb
  | 13, _, h => h
  | _ + 14, _, _ => trivial
set_option maxRecDepth 100000 in
set_option maxHeartbeats 6400000 in
theorem walk_FnFragmentsTwice (C : Option Addr) (len cap : Nat) (zs : List Int) (w : World) (w0 : IsRow .u8 w C len cap zs) :
    Calls Try.prog 6 #[.slice C len cap] w fun e w' => e = .returned (.bool true) ∧ Below w.heap.size w w' := by
  have hl := row_len w0
  by_cases hz : 1048576 < len
  · go_enter Try.func6, Try.ntmps6
    go_wp2
    go_ret
    exact ⟨rfl, Below.refl _ _⟩
  · have hC := code_of_row w0 (by omega)
    clear w0
    go_enter Try.func6, Try.ntmps6
    go_wp2_with fail
    refine (big_no _ _ _ _ (by omega)).mono ?_
    rintro e w' ⟨rfl, hw'⟩
    rw [hw']
    clear hw' w'
    go_wp2_with fail
    refine (d_Fragments _ C len cap _ hC).mono ?_
    rintro e w1 ⟨p, mtu, rfl, hpd, hpo, hB⟩
    have CI : Hid (∀ u : World, Calls Try.prog 11 #[.agg (ipL p), .int .i64 mtu] u fun e w' => ∃ v, e = .returned (.tuple #[v, .int .i64 (frC p mtu)]) ∧ ownV w' u.heap.size 28 11 v (frL p mtu).length (iqF (frL p mtu)) ∧ Below u.heap.size u w') := fun u => i_Fragments p mtu u (by omega) (by omega)
    have CS : Hid (∀ u : World, Calls Try.prog 9 #[.agg (ipL p), .int .i64 mtu] u fun e w' => ∃ v, e = .returned (.tuple #[v, .int .i64 (frC p mtu)]) ∧ ownV w' u.heap.size 28 11 v (frL p mtu).length (iqF (frL p mtu)) ∧ Below u.heap.size u w') := fun u => s_Fragments p mtu u (by omega) (by omega)
    have CE : Hid (∀ (m : List IpV) (S1 S2 : Option Addr) (c1 c2 : Nat) (u : World), m.length ≤ 1099511627776 → CellsAt u S1 (iqF m) → CellsAt u S2 (iqF m) → Calls Try.prog 17 #[.slice S1 m.length c1, .slice S2 m.length c2] u fun e w' => e = .returned (.bool true) ∧ Below u.heap.size u w') := fun m S1 S2 c1 c2 u hm h1 h2 => l_sameIps S1 S2 c1 c2 m u h1 h2 hm
    have hA := Bx.new w1 (ipL p) 28
    have hB1 := hB.alloc hB.size (.cells (ipL p) 28)
    have hrl := frL_len p mtu
    have HX : Hid (frC p mtu = 0 → FrAll mtu p (frL p mtu) ∧ IpFacts p ∧ 68 ≤ mtu ∧ mtu ≤ 65535) := frL_all
    have HTW : Hid (∀ m2, frC p mtu = 0 → p.df = false → cpOk p.opts = true → 68 ≤ m2 → m2 ≤ 65535 → p.data.size ≤ 4000 → (∀ i, i < (frL p mtu).length → frC (iqA (frL p mtu) i) m2 = 0) ∧ jnOk ((frL p mtu).flatMap fun x => frL x m2) = true ∧ jnV ((frL p mtu).flatMap fun x => frL x m2) = p ∧ tlOk ((frL p mtu).flatMap fun x => frL x m2) = true ∧ ((frL p mtu).flatMap fun x => frL x m2).length ≤ 1001 ∧ iqTot ((frL p mtu).flatMap fun x => frL x m2) ≤ 44040) := fun m2 h1 h2 h3 h4 h5 h6 => ⟨frTw_code h1 h2 h3 h4 h5, frTw_all h1 h2 h3 h4 h5 h6⟩
    have CC : Hid (∀ u : World, Calls Try.prog 22 #[.string p.opts] u fun e w' => e = .returned (.tuple #[.string (cpText p.opts), .bool (cpOk p.opts)]) ∧ w' = u) := fun u => s_CopiedOpts p.opts u (by omega)
    generalize frL p mtu = pr at *
    generalize frC p mtu = pc at *
    have hpc : (pc != pc) = false := by simp
    have hpc2 : (pc == pc) = true := by simp
    simp only [ipL] at CI CS hA hB1 ⊢
    clear hB
    have a0 := hA.2 0 _ rfl; have a1 := hA.2 1 _ rfl; have a2 := hA.2 2 _ rfl; have a3 := hA.2 3 _ rfl; have a4 := hA.2 4 _ rfl; have a5 := hA.2 5 _ rfl; have a6 := hA.2 6 _ rfl; have a7 := hA.2 7 _ rfl; have a8 := hA.2 8 _ rfl; have a9 := hA.2 9 _ rfl; have a10 := hA.2 10 _ rfl
    go_wp2_with fail
    refine (CI.out _).mono ?_
    rintro e w2 ⟨vG, rfl, hG, hb⟩
    obtain ⟨TG, cG, rfl⟩ := hG.form
    replace hG := hG.reads.2
    replace hA := hA.below hb; replace hB1 := hB1.trans (hb.mono hB1.size)
    clear hb CI a0 a1 a2 a3 a4 a5 a6 a7 a8 a9 a10
    have a0 := hA.2 0 _ rfl; have a1 := hA.2 1 _ rfl; have a2 := hA.2 2 _ rfl; have a3 := hA.2 3 _ rfl; have a4 := hA.2 4 _ rfl; have a5 := hA.2 5 _ rfl; have a6 := hA.2 6 _ rfl; have a7 := hA.2 7 _ rfl; have a8 := hA.2 8 _ rfl; have a9 := hA.2 9 _ rfl; have a10 := hA.2 10 _ rfl
    go_wp2_with fail
    refine (CS.out _).mono ?_
    rintro e w3 ⟨vW, rfl, hW, hb⟩
    obtain ⟨TW, cW, rfl⟩ := hW.form
    replace hW := hW.reads.2
    replace hG := hG.below hb
    replace hA := hA.below hb; replace hB1 := hB1.trans (hb.mono hB1.size)
    clear hb CS a0 a1 a2 a3 a4 a5 a6 a7 a8 a9 a10
    go_wp2_with fail
    refine (CE.out pr _ _ _ _ _ (by omega) hG hW).mono ?_
    rintro e w4 ⟨rfl, hb⟩
    replace hG := hG.below hb; replace hW := hW.below hb
    replace hA := hA.below hb; replace hB1 := hB1.trans (hb.mono hB1.size)
    clear hb
    by_cases hc0 : pc = 0
    case neg =>
      have hc1 : (pc != 0) = true := by simp; exact hc0
      clear hc0 HX HTW CC
      go_wp2_with fail
      refine (CE.out pr _ _ _ _ _ (by omega) hG hW).mono ?_
      rintro e w5 ⟨rfl, hb⟩
      replace hB1 := hB1.trans (hb.mono hB1.size)
      go_wp2
      go_ret
      exact ⟨rfl, hB1⟩
    case pos =>
      obtain ⟨hF, hpf, hm0, hm1⟩ := HX.out hc0
      have hc1 : (pc != 0) = false := by simp; exact hc0
      have HT2 : Hid (∀ m2, p.df = false → cpOk p.opts = true → 68 ≤ m2 → m2 ≤ 65535 → p.data.size ≤ 4000 → (∀ i, i < pr.length → frC (iqA pr i) m2 = 0) ∧ jnOk (pr.flatMap fun x => frL x m2) = true ∧ jnV (pr.flatMap fun x => frL x m2) = p ∧ tlOk (pr.flatMap fun x => frL x m2) = true ∧ (pr.flatMap fun x => frL x m2).length ≤ 1001 ∧ iqTot (pr.flatMap fun x => frL x m2) ≤ 44040) := fun m2 => HTW.out m2 hc0
      have HE : Hid (∀ i, i < pr.length → IpFacts (iqA pr i)) := fun i hi => (hF.each i hi).1
      clear HX HTW hc0 hF
      have a0 := hA.2 0 _ rfl; have a1 := hA.2 1 _ rfl; have a2 := hA.2 2 _ rfl; have a3 := hA.2 3 _ rfl; have a4 := hA.2 4 _ rfl; have a5 := hA.2 5 _ rfl; have a6 := hA.2 6 _ rfl; have a7 := hA.2 7 _ rfl; have a8 := hA.2 8 _ rfl; have a9 := hA.2 9 _ rfl; have a10 := hA.2 10 _ rfl
      cases hdf : p.df
      case true =>
        rw [hdf] at a2
        clear hdf HT2 CC
        go_wp2_with fail
        refine (CE.out pr _ _ _ _ _ (by omega) hG hW).mono ?_
        rintro e w5 ⟨rfl, hb⟩
        replace hB1 := hB1.trans (hb.mono hB1.size)
        go_wp2
        go_ret
        exact ⟨rfl, hB1⟩
      case false =>
        rw [hdf] at a2
        by_cases hbig : 4000 < p.data.size
        · have hbi : (4000 : Int) < (p.data.size : Int) := by omega
          clear hdf HT2 CC
          go_wp2_with fail
          refine (CE.out pr _ _ _ _ _ (by omega) hG hW).mono ?_
          rintro e w5 ⟨rfl, hb⟩
          replace hB1 := hB1.trans (hb.mono hB1.size)
          go_wp2
          go_ret
          exact ⟨rfl, hB1⟩
        · have hbi : ¬ (4000 : Int) < (p.data.size : Int) := by omega
          cases hok : cpOk p.opts
          case false =>
            rw [hok] at CC
            clear hdf HT2
            go_wp2_with fail
            refine (CC.out _).mono ?_
            rintro e w5 ⟨rfl, hq⟩
            rw [hq]
            clear hq w5
            go_wp2
            go_ret
            exact ⟨rfl, hB1⟩
          case true =>
            rw [hok] at CC
            have HT3 : Hid (∀ m2, 68 ≤ m2 → m2 ≤ 65535 → (∀ i, i < pr.length → frC (iqA pr i) m2 = 0) ∧ jnOk (pr.flatMap fun x => frL x m2) = true ∧ jnV (pr.flatMap fun x => frL x m2) = p ∧ tlOk (pr.flatMap fun x => frL x m2) = true ∧ (pr.flatMap fun x => frL x m2).length ≤ 1001 ∧ iqTot (pr.flatMap fun x => frL x m2) ≤ 44040) := fun m2 h1 h2 => HT2.out m2 hdf hok h1 h2 (by omega)
            clear HT2 hbig hdf
            go_wp2_with fail
            refine (CC.out _).mono ?_
            rintro e w5 ⟨rfl, hq⟩
            rw [hq]
            clear hq w5 CC hok
            obtain ⟨bx, hbx0, hbx1, CBY0⟩ := l_byteOfS _ C len cap 4 w (by omega) hC
            have CBY : Hid (∀ u : World, Below w.heap.size w u → Calls Try.prog 23 #[.slice C len cap, .int .i64 4] u fun e w' => e = .returned (.int .i64 bx) ∧ w' = u) := CBY0
            obtain ⟨g1, g2, g3, g4, g5, g6⟩ := HT3.out (68 + bx % 40) (by omega) (by omega)
            have hm2 : 68 ≤ 68 + bx % 40 ∧ 68 + bx % 40 ≤ 107 := by omega
            have htm : Int.tmod bx 40 = bx % 40 := Int.tmod_eq_emod_of_nonneg hbx0
            have hbm : 0 ≤ bx % 40 ∧ bx % 40 < 40 := by omega
            have hq0 := hm2
            have CF : Hid (∀ i, i < pr.length → ∀ u : World, Calls Try.prog 11 #[.agg (ipL (iqA pr i)), .int .i64 (68 + bx % 40)] u fun e w' => ∃ v, e = .returned (.tuple #[v, .int .i64 0]) ∧ ownV w' u.heap.size 28 11 v (frL (iqA pr i) (68 + bx % 40)).length (iqF (frL (iqA pr i) (68 + bx % 40))) ∧ Below u.heap.size u w') := fun i hi u => by
              have h1 := HE.out i hi
              have := i_Fragments (iqA pr i) (68 + bx % 40) u (by have := h1.opts; omega) (by have := h1.len; omega)
              rw [g1 i hi] at this
              exact this
            have HL : Hid (∀ i, (frL (iqA pr i) (68 + bx % 40)).length ≤ 65536) := fun i => frL_len _ _
            have HP : Hid (∀ i, (pr.take i).flatMap (fun x => frL x (68 + bx % 40)) <+: pr.flatMap fun x => frL x (68 + bx % 40)) := fun i => ⟨(pr.drop i).flatMap (fun x => frL x (68 + bx % 40)), by rw [← List.flatMap_append, List.take_append_drop]⟩
            have HS : Hid (∀ i, i < pr.length → (pr.take (i + 1)).flatMap (fun x => frL x (68 + bx % 40)) = (pr.take i).flatMap (fun x => frL x (68 + bx % 40)) ++ frL (iqA pr i) (68 + bx % 40)) := fun i hi => by
              rw [List.take_succ_eq_append_getElem hi, List.flatMap_append, iqA_eq pr i hi]; simp
            have HZ : Hid (pr.flatMap (fun x => frL x (68 + bx % 40)) = (pr.take pr.length).flatMap (fun x => frL x (68 + bx % 40))) := by show _ = _; rw [List.take_length]
            clear HT3 CBY0 g1
            generalize hTW : pr.flatMap (fun x => frL x (68 + bx % 40)) = tw at *
            clear hTW
            have hlw := hB1.size
            have hA1 := hA.1
            have hmade := World.ownsRow_made (base := w4.heap.size) (e := 28) (size := 11) w4 #[] 0 (Nat.le_refl _) (by decide) rfl
            have hBm := (Below.refl w4.heap.size w4).alloc (Nat.le_refl _) (.cells #[] 28)
            go_wp2_with fail
            go_loopw [11, 12] (fun o i wr => ∃ (j : Nat) (L : List IpV), L = (pr.take j).flatMap (fun x => frL x (68 + bx % 40)) ∧ j ≤ pr.length ∧ i = .int .i64 (j : Int) ∧ ownV wr w4.heap.size 28 11 o L.length (iqF L) ∧ Below w4.heap.size w4 wr) (fun _ i _ => ((pr.length : Int) - intOf i).toNat)
            case atStart => exact ⟨0, [], rfl, by omega, rfl, hmade, hBm⟩
            case round =>
              clear hmade hBm
              obtain ⟨j, L, hL, hj, rfl, hown, hb⟩ := hrel
              have hLp : L.length ≤ 1001 := by
                have := (HP.out j).length_le
                rw [← hL] at this
                omega
              by_cases hlt : j < pr.length
              · rcases hG.below hb with h | ⟨g, off, rfl, hg, hc⟩
                · have := iqF_len pr; rw [h] at this; simp at this; omega
                · have hj1 : (j : Int) < (pr.length : Int) := by omega
                  have hcs := iq_cells hc j hlt
                  have CFj := CF.out j hlt
                  have hfl := HL.out j
                  have HS2 : Hid (L ++ frL (iqA pr j) (68 + bx % 40) = (pr.take (j + 1)).flatMap (fun x => frL x (68 + bx % 40))) := by show _ = _; rw [hL, HS.out j hlt]
                  clear hc hG HE CF HL HP HS HZ g2 g3 g4 g5 g6 hL
                  generalize iqA pr j = q at *
                  have CFq : Hid _ := CFj
                  clear CFj
                  simp only [ipL] at CFq
                  have hBw := hB1.trans (hb.mono hlw)
                  have c0 := hcs.1; have c1 := hcs.2.1; have c2 := hcs.2.2.1; have c3 := hcs.2.2.2.1; have c4 := hcs.2.2.2.2.1; have c5 := hcs.2.2.2.2.2.1; have c6 := hcs.2.2.2.2.2.2.1; have c7 := hcs.2.2.2.2.2.2.2.1; have c8 := hcs.2.2.2.2.2.2.2.2.1; have c9 := hcs.2.2.2.2.2.2.2.2.2.1; have c10 := hcs.2.2.2.2.2.2.2.2.2.2
                  go_wp2_with fail
                  refine wp_region_inv (fun v => ⟨#[Value.slice C len cap, undef, u2, Value.pointer (some { block := w1.heap.size, off := 0 }), Value.int IntKind.i64 mtu, Value.slice (some { block := g, off := off }) pr.length cG, Value.int IntKind.i64 pc, Value.slice TW pr.length cW, Value.int IntKind.i64 pc, Value.string (cpText p.opts), Value.bool true, u11, Value.int IntKind.i64 (j : Int), v 12, v 13, undef, undef, Value.slice C len cap, Value.bool false, Value.tuple #[Value.agg #[Value.int IntKind.i64 p.tos, Value.int IntKind.i64 p.id, Value.bool false, Value.bool p.mf, Value.int IntKind.i64 p.off, Value.int IntKind.i64 p.ttl, Value.int IntKind.i64 p.pro, Value.int IntKind.i64 p.src, Value.int IntKind.i64 p.dst, Value.string p.opts, Value.string p.data], Value.int IntKind.i64 mtu], Value.slice C len cap, Value.tuple #[Value.agg #[Value.int IntKind.i64 p.tos, Value.int IntKind.i64 p.id, Value.bool false, Value.bool p.mf, Value.int IntKind.i64 p.off, Value.int IntKind.i64 p.ttl, Value.int IntKind.i64 p.pro, Value.int IntKind.i64 p.src, Value.int IntKind.i64 p.dst, Value.string p.opts, Value.string p.data], Value.int IntKind.i64 mtu], Value.agg #[Value.int IntKind.i64 p.tos, Value.int IntKind.i64 p.id, Value.bool false, Value.bool p.mf, Value.int IntKind.i64 p.off, Value.int IntKind.i64 p.ttl, Value.int IntKind.i64 p.pro, Value.int IntKind.i64 p.src, Value.int IntKind.i64 p.dst, Value.string p.opts, Value.string p.data], Value.int IntKind.i64 mtu, Value.tuple #[Value.slice (some { block := g, off := off }) pr.length cG, Value.int IntKind.i64 pc], Value.agg #[Value.int IntKind.i64 p.tos, Value.int IntKind.i64 p.id, Value.bool false, Value.bool p.mf, Value.int IntKind.i64 p.off, Value.int IntKind.i64 p.ttl, Value.int IntKind.i64 p.pro, Value.int IntKind.i64 p.src, Value.int IntKind.i64 p.dst, Value.string p.opts, Value.string p.data], Value.int IntKind.i64 mtu, Value.tuple #[Value.slice (some { block := g, off := off }) pr.length cG, Value.int IntKind.i64 pc], Value.slice (some { block := g, off := off }) pr.length cG, Value.int IntKind.i64 pc, Value.tuple #[Value.slice TW pr.length cW, Value.int IntKind.i64 pc], Value.agg #[Value.int IntKind.i64 p.tos, Value.int IntKind.i64 p.id, Value.bool false, Value.bool p.mf, Value.int IntKind.i64 p.off, Value.int IntKind.i64 p.ttl, Value.int IntKind.i64 p.pro, Value.int IntKind.i64 p.src, Value.int IntKind.i64 p.dst, Value.string p.opts, Value.string p.data], Value.int IntKind.i64 mtu, Value.tuple #[Value.slice TW pr.length cW, Value.int IntKind.i64 pc], Value.slice TW pr.length cW, Value.int IntKind.i64 pc, Value.int IntKind.i64 pc, Value.int IntKind.i64 pc, Value.bool false, Value.bool false, Value.slice (some { block := g, off := off }) pr.length cG, Value.slice TW pr.length cW, Value.bool true, Value.bool false, Value.bool false, Value.bool false, Value.int IntKind.i64 pc, Value.bool false, Value.bool false, Value.bool false, Value.pointer (some { block := w1.heap.size, off := 2 }), Value.bool false, Value.bool false, Value.bool false, Value.pointer (some { block := w1.heap.size, off := 10 }), Value.string p.data, Value.int IntKind.i64 (p.data.size : Int), Value.bool (decide (4000 < (p.data.size : Int))), Value.bool (decide (4000 < (p.data.size : Int))), undef, undef, undef, undef, undef, undef, undef, undef, Value.tuple #[Value.string (cpText p.opts), Value.bool true], Value.pointer (some { block := w1.heap.size, off := 9 }), Value.string p.opts, Value.tuple #[Value.string (cpText p.opts), Value.bool true], Value.string (cpText p.opts), Value.bool true, Value.bool true, Value.bool false, Value.slice (some { block := w4.heap.size, off := 0 }) 0 0, Value.int IntKind.i64 (j : Int), Value.slice (some { block := g, off := off }) pr.length cG, Value.int IntKind.i64 (pr.length : Int), Value.bool true, u80, u81, v 9, v 0, v 1, v 2, v 3, v 4, v 5, v 6, v 7, v 8, v 10, v 11, u94, u95, u96, u97, u98, undef, undef, undef, undef, undef, undef, undef, undef, undef, undef, undef, undef, undef, undef, undef], []⟩) (QK 13 (fun u => Below wr.heap.size wr u) (tw4F wr.heap.size g off j pr.length cG C len cap bx q) (fun v u => v 13 = .int .i64 0 ∧ ownV u wr.heap.size 28 11 (v 12) (frL q (68 + bx % 40)).length (iqF (frL q (68 + bx % 40))))) (fun i => cond (Nat.beq i 0) u83 (cond (Nat.beq i 1) u84 (cond (Nat.beq i 2) u85 (cond (Nat.beq i 3) u86 (cond (Nat.beq i 4) u87 (cond (Nat.beq i 5) u88 (cond (Nat.beq i 6) u89 (cond (Nat.beq i 7) u90 (cond (Nat.beq i 8) u91 (cond (Nat.beq i 9) u82 (cond (Nat.beq i 10) u92 (cond (Nat.beq i 11) u93 (cond (Nat.beq i 12) u13 u14))))))))))))) (by kernel_rfl) (by kernel_rfl) rfl ?_ ?_ ?_
                  case refine_1 =>
                    intro L1 hL1
                    refine QK.start (Below.refl _ wr).drew (fun i x hi => ?_) hL1
                    obtain ⟨m, rfl⟩ : ∃ m, i = m + 14 := ⟨i - 14, by omega⟩
                    trivial
                  case refine_2 =>
                    refine Steps.cons rfl (fun L1 v u hJ hL1 hd K1 hK => ?_) ?_
                    · have hI := hJ.inv
                      clear hd
                      go_simp
                      exact hK (updV v 0 _) _ (by exact hJ.next 0 _ (by decide) hL1 hI (fun _ _ h => h) (rfl))
                    refine Steps.cons rfl (fun L1 v u hJ hL1 hd K1 hK => ?_) ?_
                    · have hI := hJ.inv
                      clear hd
                      go_simp
                      exact hK (updV v 1 _) _ (by exact hJ.next 1 _ (by decide) hL1 hI (fun _ _ h => h) (rfl))
                    refine Steps.cons rfl (fun L1 v u hJ hL1 hd K1 hK => ?_) ?_
                    · have hI := hJ.inv
                      have hF := hJ.F (hJ.hN (by decide) hL1)
                      have e0 : v 0 = .slice (some ⟨g, off, none⟩) pr.length cG := hF 0 (hd ⟨0, .data⟩ (by simp) rfl)
                      have e1 : v 1 = .int .i64 (j : Int) := hF 1 (hd ⟨1, .data⟩ (by simp) rfl)
                      clear hF hd
                      go_simp
                      exact hK (updV (updV (updV v 0 (.slice (some ⟨g, off, none⟩) pr.length cG)) 1 (.int .i64 (j : Int))) 2 _) _ (by rw [updV_eq (v := updV v 0 _) (by rw [updV_eq e0]; exact e1), updV_eq e0]; exact hJ.next 2 _ (by decide) hL1 hI (fun _ _ h => h) (rfl))
                    refine Steps.cons rfl (fun L1 v u hJ hL1 hd K1 hK => ?_) ?_
                    · have hI := hJ.inv
                      have hF := hJ.F (hJ.hN (by decide) hL1)
                      have e2 : v 2 = .pointer (some ⟨g, off + j * 11, none⟩) := hF 2 (hd ⟨2, .data⟩ (by simp) rfl)
                      clear hF hd
                      have k0 := (hI.cell (p := ⟨g, off + j * 11, none⟩) hg).trans c0; have k1 := (hI.cell (p := ⟨g, off + j * 11 + 1, none⟩) hg).trans c1; have k2 := (hI.cell (p := ⟨g, off + j * 11 + 2, none⟩) hg).trans c2; have k3 := (hI.cell (p := ⟨g, off + j * 11 + 3, none⟩) hg).trans c3; have k4 := (hI.cell (p := ⟨g, off + j * 11 + 4, none⟩) hg).trans c4; have k5 := (hI.cell (p := ⟨g, off + j * 11 + 5, none⟩) hg).trans c5; have k6 := (hI.cell (p := ⟨g, off + j * 11 + 6, none⟩) hg).trans c6; have k7 := (hI.cell (p := ⟨g, off + j * 11 + 7, none⟩) hg).trans c7; have k8 := (hI.cell (p := ⟨g, off + j * 11 + 8, none⟩) hg).trans c8; have k9 := (hI.cell (p := ⟨g, off + j * 11 + 9, none⟩) hg).trans c9; have k10 := (hI.cell (p := ⟨g, off + j * 11 + 10, none⟩) hg).trans c10
                      go_simp
                      exact hK (updV (updV v 2 (.pointer (some ⟨g, off + j * 11, none⟩))) 3 _) _ (by rw [updV_eq e2]; exact hJ.next 3 _ (by decide) hL1 hI (fun _ _ h => h) (rfl))
                    refine Steps.cons rfl (fun L1 v u hJ hL1 hd K1 hK => ?_) ?_
                    · have hI := hJ.inv
                      clear hd
                      go_simp
                      exact hK (updV v 4 _) _ (by exact hJ.next 4 _ (by decide) hL1 hI (fun _ _ h => h) (rfl))
                    refine Steps.cons rfl (fun L1 v u hJ hL1 hd K1 hK => ?_) ?_
                    · have hI := hJ.inv
                      have hF := hJ.F (hJ.hN (by decide) hL1)
                      have e4 : v 4 = .slice C len cap := hF 4 (hd ⟨4, .data⟩ (by simp) rfl)
                      clear hF hd
                      go_simp
                      refine (CBY.out _ (hBw.trans (hI.mono hBw.size))).mono ?_
                      rintro e u1 ⟨rfl, rfl⟩
                      exact hK (updV (updV v 4 (.slice C len cap)) 5 _) _ (by rw [updV_eq e4]; exact hJ.next 5 _ (by decide) hL1 hI (fun _ _ h => h) (rfl))
                    refine Steps.cons rfl (fun L1 v u hJ hL1 hd K1 hK => ?_) ?_
                    · have hI := hJ.inv
                      have hF := hJ.F (hJ.hN (by decide) hL1)
                      have e5 : v 5 = .int .i64 bx := hF 5 (hd ⟨5, .data⟩ (by simp) rfl)
                      clear hF hd
                      go_simp
                      exact hK (updV (updV v 5 (.int .i64 bx)) 6 _) _ (by rw [updV_eq e5]; exact hJ.next 6 _ (by decide) hL1 hI (fun _ _ h => h) (rfl))
                    refine Steps.cons rfl (fun L1 v u hJ hL1 hd K1 hK => ?_) ?_
                    · have hI := hJ.inv
                      have hF := hJ.F (hJ.hN (by decide) hL1)
                      have e6 : v 6 = .int .i64 (bx % 40) := hF 6 (hd ⟨6, .data⟩ (by simp) rfl)
                      clear hF hd
                      have hwr : IntKind.i64.wrap (68 + bx % 40) = 68 + bx % 40 := wraps_i64 _ (by omega) (by omega)
                      go_simp
                      exact hK (updV (updV v 6 (.int .i64 (bx % 40))) 7 _) _ (by rw [updV_eq e6]; exact hJ.next 7 _ (by decide) hL1 hI (fun _ _ h => h) (rfl))
                    refine Steps.cons rfl (fun L1 v u hJ hL1 hd K1 hK => ?_) ?_
                    · have hI := hJ.inv
                      have hF := hJ.F (hJ.hN (by decide) hL1)
                      have e3 : v 3 = .agg #[.int .i64 q.tos, .int .i64 q.id, .bool q.df, .bool q.mf, .int .i64 q.off, .int .i64 q.ttl, .int .i64 q.pro, .int .i64 q.src, .int .i64 q.dst, .string q.opts, .string q.data] := hF 3 (hd ⟨3, .data⟩ (by simp) rfl)
                      have e7 : v 7 = .int .i64 (68 + bx % 40) := hF 7 (hd ⟨7, .data⟩ (by simp) rfl)
                      clear hF hd
                      go_simp
                      refine (CFq.out _).mono ?_
                      rintro e u1 ⟨y, rfl, hy, hb1⟩
                      exact hK (updV (updV (updV v 3 (.agg #[.int .i64 q.tos, .int .i64 q.id, .bool q.df, .bool q.mf, .int .i64 q.off, .int .i64 q.ttl, .int .i64 q.pro, .int .i64 q.src, .int .i64 q.dst, .string q.opts, .string q.data])) 7 (.int .i64 (68 + bx % 40))) 8 _) _ (by rw [updV_eq (v := updV v 3 _) (by rw [updV_eq e3]; exact e7), updV_eq e3]; exact hJ.next 8 _ (by decide) hL1 (hI.trans (hb1.mono hI.size)) (tw4F_far hb1) (⟨y, rfl, ownV.mono hy hI.size⟩))
                    refine Steps.cons rfl (fun L1 v u hJ hL1 hd K1 hK => ?_) ?_
                    · have hI := hJ.inv
                      have hF := hJ.F (hJ.hN (by decide) hL1)
                      obtain ⟨y8, e8, hy8⟩ := hF 8 (hd ⟨8, .data⟩ (by simp) rfl)
                      clear hF hd
                      go_simp
                      exact hK (updV (updV v 8 (.tuple #[y8, .int .i64 0])) 9 _) _ (by rw [updV_eq e8]; exact hJ.next 9 _ (by decide) hL1 hI (fun _ _ h => h) (⟨y8, rfl, hy8⟩))
                    refine Steps.cons rfl (fun L1 v u hJ hL1 hd K1 hK => ?_) ?_
                    · have hI := hJ.inv
                      have hF := hJ.F (hJ.hN (by decide) hL1)
                      obtain ⟨y9, e9, hy9⟩ := hF 9 (hd ⟨9, .data⟩ (by simp) rfl)
                      clear hF hd
                      go_simp
                      exact hK (updV (updV v 9 (.tuple #[y9, .int .i64 0])) 10 _) _ (by rw [updV_eq e9]; exact hJ.next 10 _ (by decide) hL1 hI (fun _ _ h => h) (hy9))
                    refine Steps.cons rfl (fun L1 v u hJ hL1 hd K1 hK => ?_) ?_
                    · have hI := hJ.inv
                      have hF := hJ.F (hJ.hN (by decide) hL1)
                      obtain ⟨y9, e9, hy9⟩ := hF 9 (hd ⟨9, .data⟩ (by simp) rfl)
                      clear hF hd
                      go_simp
                      exact hK (updV (updV v 9 (.tuple #[y9, .int .i64 0])) 11 _) _ (by rw [updV_eq e9]; exact hJ.next 11 _ (by decide) hL1 hI (fun _ _ h => h) (rfl))
                    refine Steps.cons rfl (fun L1 v u hJ hL1 hd K1 hK => ?_) ?_
                    · have hI := hJ.inv
                      have hF := hJ.F (hJ.hN (by decide) hL1)
                      have hy10 := hF 10 (hd ⟨10, .data⟩ (by simp) rfl)
                      clear hF hd
                      go_simp
                      exact hK (updV v 12 _) _ (by exact hJ.next 12 _ (by decide) hL1 hI (fun _ _ h => h) (hy10))
                    refine Steps.cons rfl (fun L1 v u hJ hL1 hd K1 hK => ?_) ?_
                    · have hI := hJ.inv
                      have hF := hJ.F hL1
                      have e11 : v 11 = .int .i64 0 := hF 11 (hd ⟨11, .data⟩ (by simp) rfl)
                      have hy12 := hF 12 (hd ⟨12, .chain⟩ (by simp) rfl)
                      clear hF
                      go_simp
                      refine hK (updV (updV v 11 (.int .i64 0)) 13 _) _ ?_
                      rw [updV_eq e11]
                      refine QK.last hI (fun j2 hj2 => ?_) ⟨updV_same _ _ _, by rw [updV_ne _ _ (by decide)]; exact hy12⟩
                      have hjs : j2 ∈ List.range 13 := by simpa using hj2
                      have hall : ∀ j2 ∈ List.range 13, L1 j2 = true := by
                        simp only [List.range_succ, List.range_zero, List.nil_append, List.mem_append, List.mem_singleton]
                        rintro j2 hj2
                        repeat (first | (rcases hj2 with hj2 | rfl; rotate_left; exact hd ⟨_, .phase⟩ (by simp) rfl) | (subst hj2; exact hd ⟨_, .phase⟩ (by simp) rfl))
                      exact hall j2 hjs
                    exact Steps.nil
                  case refine_3 =>
                    intro L1 v u hJ hL1
                    obtain ⟨e13, hv6⟩ := hJ.E (hL1 13 (by decide))
                    have hbu := hJ.inv
                    clear hJ hL1
                    replace hown := hown.far hbu
                    have hB5 := hb.trans (hbu.mono hb.size)
                    have hs5 := hB5.size
                    generalize v 12 = x12 at *
                    generalize v 13 = x13 at *
                    subst e13
                    obtain ⟨T6, c6, rfl⟩ := ownV.form hv6
                    obtain ⟨T5, c5, rfl⟩ := ownV.form hown
                    have hT6 : T6 = none → (frL q (68 + bx % 40)).length = 0 ∧ c6 = 0 := fun h => by
                      rcases ownV.shape hv6 with ⟨e, h0, _⟩ | ⟨g7, cap7, e, _⟩
                      · simp only [Value.slice.injEq] at e; exact ⟨h0, e.2.2⟩
                      · simp only [Value.slice.injEq] at e; rw [h] at e; exact absurd e.1 (by simp)
                    have hone6 : ∀ y ∈ iqF (frL q (68 + bx % 40)), y.oneCell' = true := fun y hy => by
                      obtain ⟨z, _, hz⟩ := List.mem_flatMap.1 hy
                      exact oneIp z y hz
                    have hsrc6 := (ownV.reads hv6).2
                    have hML := HS2.out
                    have HML : Hid (L ++ frL q (68 + bx % 40) = (pr.take (j + 1)).flatMap (fun x => frL x (68 + bx % 40))) := hML
                    clear hv6 hML HS2
                    generalize frL q (68 + bx % 40) = M at *
                    go_wp2_with (refine wpList_append_vals Try.infIp rfl _ _ rfl w4.heap.size (.slice T5 L.length c5) L.length (iqF L) rfl hown T6 M.length c6 (iqF M) rfl hT6 (by rw [iqF_len]) hone6 hsrc6 (by omega) hs5 ?_; intro v7 w7 hown7 hb7)
                    go_roundw
                    case rel => exact ⟨j + 1, L ++ M, HML.out, by omega, by go_num, by rw [iqF_app, List.length_append]; exact hown7, hB5.trans hb7⟩
                    case measure => simp [intOf]; omega
              · have hj1 : ¬ (j : Int) < (pr.length : Int) := by omega
                have hjj : j = pr.length := by omega
                subst hjj
                rw [← HZ.out] at hL
                subst hL
                obtain ⟨T5, c5, rfl⟩ := ownV.form hown
                have hLc := (ownV.reads hown).2
                have hshort : iqShort L := iqShort_of (by omega)
                have CJ : Hid (∀ (c : Nat) (u : World), CellsAt u T5 (iqF L) → Calls Try.prog 20 #[.slice T5 L.length c] u fun e w' => e = .returned (.tuple #[.agg (ipL p), .bool true]) ∧ Below u.heap.size u w') := fun c u hu => by
                  have := i_Joined T5 c L u hu (by omega) hshort
                  rw [g2, g3] at this
                  exact this
                have CT : Hid (∀ (c : Nat) (u : World), CellsAt u T5 (iqF L) → Calls Try.prog 21 #[.slice T5 L.length c] u fun e w' => e = .returned (.bool true) ∧ Below u.heap.size u w') := fun c u hu => by
                  have := i_Tiles T5 c L u hu (by omega) hshort
                  rw [g4] at this
                  exact this
                have hEQ := fun u : World => ipEqlS p u
                have hgd := Try.ipGuard
                simp only [ipL] at CJ hEQ
                replace hA := hA.below hb
                replace hB1 := hB1.trans (hb.mono hlw)
                clear HE CF HL HP HS HZ g2 g3 g4 g5 g6 hG hb hown hshort hLp a0 a1 a2 a3 a4 a5 a6 a7 a8 a9 a10
                go_wp2_with fail
                refine (CJ.out _ _ hLc).mono ?_
                rintro e w7 ⟨rfl, hb⟩
                replace hA := hA.below hb
                replace hB1 := hB1.trans (hb.mono hB1.size)
                replace hLc := hLc.below hb
                clear hb CJ
                have hX := Bx.new w7 (ipL p) 28
                have hal := (Below.refl w7.heap.size w7).alloc (Nat.le_refl _) (.cells (ipL p) 28)
                replace hA := hA.below hal
                replace hLc := hLc.below hal
                replace hB1 := hB1.trans (hal.mono hB1.size)
                simp only [ipL] at hX hA hLc hB1
                clear hal
                have a0 := hA.2 0 _ rfl; have a1 := hA.2 1 _ rfl; have a2 := hA.2 2 _ rfl; have a3 := hA.2 3 _ rfl; have a4 := hA.2 4 _ rfl; have a5 := hA.2 5 _ rfl; have a6 := hA.2 6 _ rfl; have a7 := hA.2 7 _ rfl; have a8 := hA.2 8 _ rfl; have a9 := hA.2 9 _ rfl; have a10 := hA.2 10 _ rfl
                have x0 := hX.2 0 _ rfl; have x1 := hX.2 1 _ rfl; have x2 := hX.2 2 _ rfl; have x3 := hX.2 3 _ rfl; have x4 := hX.2 4 _ rfl; have x5 := hX.2 5 _ rfl; have x6 := hX.2 6 _ rfl; have x7 := hX.2 7 _ rfl; have x8 := hX.2 8 _ rfl; have x9 := hX.2 9 _ rfl; have x10 := hX.2 10 _ rfl
                go_wp2_with fail
                refine (CT.out _ _ hLc).mono ?_
                rintro e w8 ⟨rfl, hb⟩
                replace hB1 := hB1.trans (hb.mono hB1.size)
                clear hb CT hA hX
                go_wp2
                go_ret
                exact ⟨rfl, hB1⟩
end Go.Proofs.Ytgfpoohjbgdcpaa
