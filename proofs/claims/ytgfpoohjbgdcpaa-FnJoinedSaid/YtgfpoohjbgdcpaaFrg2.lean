/-
  The pieces of a datagram: the model's Fragments.
-/
import Derived.Test.YtgfpoohjbgdcpaaFrg1
import Derived.Laws.OwnMore
import Derived.Maps.AppendAt
namespace Go.Proofs.Ytgfpoohjbgdcpaa
open Go.RowKit Go.PlainAid
theorem cpText_40 {t : ByteArray} (h : t.size ≤ 40) : (cpText t).size ≤ 40 := by
  unfold cpText
  split
  · rw [str_size]
    have := cpBytes_len t _ (List.prefix_refl (oSeq t))
    unfold pad4
    rw [List.length_append, List.length_replicate]
    omega
  · exact Nat.zero_le _
theorem oneIp (p : IpV) : ∀ u ∈ (ipL p).toList, u.oneCell' = true := by
  intro u hu
  simp only [ipL, List.mem_cons, List.not_mem_nil, or_false] at hu
  rcases hu with rfl | rfl | rfl | rfl | rfl | rfl | rfl | rfl | rfl | rfl | rfl <;> rfl
theorem ipOk_in {p : IpV} (h : ipOk p = true) : p.opts.size ≤ 40 ∧ 0 ≤ p.off ∧ p.off ≤ 8191 ∧ p.data.size ≤ 65535 := by
  unfold ipOk placeB lenB inB optsB at h
  simp at h
  omega
def intF : Value → Int
  | .int _ n => n
  | _ => 0
theorem iqF_one (q : IpV) : iqF [q] = (ipL q).toList := by simp [iqF, flatV]
theorem cells_newF (w : World) (vs : List Value) (t : TypeId) : CellsAt (w.alloc (.cells vs.toArray t)) (some ⟨w.heap.size, 0, none⟩) vs := by
  refine .inr ⟨w.heap.size, 0, rfl, by simp, fun i hi => ?_⟩
  rw [Nat.zero_add, World.cell?_alloc_mark]; simp
theorem ownV.asideF {w : World} {B : Nat} {E : TypeId} {k n : Nat} {T : Option Addr} {cp : Nat} {xs : List Value} (h : ownV w B E k (.slice T n cp) n xs) {b : Nat} (hb : ∀ x, (Value.slice T n cp).ownBlock = some x → b ≠ x) (j : Nat) (u : Value) : ownV (w.setCell ⟨b, j, none⟩ u) B E k (.slice T n cp) n xs :=
  ownsRow_setCell_other h (fun e => hb b e rfl) u
theorem Bx.othF {W : World} {b : Nat} {vs : List Value} (h : Bx W b vs) {c j : Nat} (hc : ¬ c = b) (u : Value) : Bx (W.setCell ⟨c, j, none⟩ u) b vs :=
  ⟨by simpa using h.1, fun i v hi => (World.cell?_setCell_other _ _ _ _ (fun k => hc (congrArg Addr.block k))).trans (h.2 i v hi)⟩
theorem Bx.belF {W W' : World} {b B : Nat} {vs : List Value} (h : Bx W b vs) (hb : Below B W W') (hB : b < B) : Bx W' b vs :=
  ⟨Nat.lt_of_lt_of_le h.1 hb.size, fun i v hv => (hb.cell (p := ⟨b, i, none⟩) hB).trans (h.2 i v hv)⟩
theorem frAt_size {c : ByteArray} {p : IpV} {k : Nat} (hk : k ≤ p.data.size) : frSize (frAt c p k) = 20 + ((frAt c p k).opts.size : Int) + ((p.data.size : Int) - (k : Int)) := by
  have hs : (frAt c p k).data.size = p.data.size - k := by show (p.data.extract k p.data.size).size = _; rw [ByteArray.size_extract]; omega
  unfold frSize; rw [hs]; omega
theorem extract_head (s : ByteArray) (k r : Nat) (h : k + r ≤ s.size) : (s.extract k s.size).extract 0 r = s.extract k (k + r) := by
  refine bl_same ?_
  rw [bl_extractF, bl_extractF, bl_extractF]
  rw [List.drop_zero, Nat.sub_zero, List.take_take]
  congr 1
  omega
theorem fr_more {c : ByteArray} {mtu : Int} {p : IpV} {k : Nat} (h8 : k % 8 = 0) (hm : 68 ≤ mtu) (hc : c.size ≤ 40) (ho : p.opts.size ≤ 40) (hk : k ≤ p.data.size) (h : mtu < frSize (frAt c p k)) :
    ∃ r : Nat, (r : Int) = (mtu - (20 + ((frAt c p k).opts.size : Int))) / 8 * 8 ∧ k + r < p.data.size ∧ r % 8 = 0 ∧ 8 ≤ r ∧ frSeq c mtu (frAt c p k) = ⟨p.tos, p.id, p.df, true, p.off + (k : Int) / 8, p.ttl, p.pro, p.src, p.dst, (frAt c p k).opts, p.data.extract k (k + r)⟩ :: frSeq c mtu (frAt c p (k + r)) := by
  have hoo : (frAt c p k).opts.size ≤ 40 := by show (if k = 0 then p.opts else c).size ≤ 40; split <;> omega
  have hr := frRoom_in hm hoo h
  have hs : (frAt c p k).data.size = p.data.size - k := by show (p.data.extract k p.data.size).size = _; rw [ByteArray.size_extract]; omega
  refine ⟨frRoom mtu (frAt c p k), hr.2.2.2, by omega, hr.2.2.1, hr.1, ?_⟩
  rw [frSeq_go hm hc hoo h, frAt_move c mtu p k h8 hm hc ho hk h]
  congr 1
  show IpV.mk _ _ _ _ _ _ _ _ _ _ _ = IpV.mk _ _ _ _ _ _ _ _ _ _ _
  rw [show (frAt c p k).data.extract 0 (frRoom mtu (frAt c p k)) = p.data.extract k (k + frRoom mtu (frAt c p k)) from extract_head p.data k _ (by omega)]
  rfl
theorem cells_newS (w : World) (n : Nat) (hn : n = w.heap.size) (vs : List Value) (t : TypeId) : CellsAt (w.alloc (.cells vs.toArray t)) (some ⟨n, 0, none⟩) vs := by
  subst hn; exact cells_newF w vs t
set_option maxRecDepth 100000 in
set_option maxHeartbeats 12800000 in
theorem s_Fragments (p : IpV) (mtu : Int) (w : World) (ho : p.opts.size ≤ 1099511627776) (hd : p.data.size ≤ 1099511627776) :
    Calls Try.prog 9 #[.agg (ipL p), .int .i64 mtu] w fun e w' => ∃ v, e = .returned (.tuple #[v, .int .i64 (frC p mtu)]) ∧ ownV w' w.heap.size 28 11 v (frL p mtu).length (iqF (frL p mtu)) ∧ Below w.heap.size w w' := by
  have CK : Hid (∀ u : World, Calls Try.prog 27 #[.agg (ipL p)] u fun e w' => e = .returned (.bool (ipOk p)) ∧ Below u.heap.size u w') := fun u => s_IpOk p u ho hd
  have CM : Hid (∀ u : World, Calls Try.prog 28 #[.int .i64 mtu, .int .i64 68, .int .i64 65535] u fun e w' => e = .returned (.bool (inB mtu 68 65535)) ∧ w' = u) := fun u => s_In mtu 68 65535 u
  have hP := Bx.new w (ipL p) 28
  have hB := (Below.refl w.heap.size w).alloc (Nat.le_refl _) (.cells (ipL p) 28)
  have E0 : frOk p mtu = false → Hid (frC p mtu = 1 ∧ frL p mtu = []) := fun h => by
    have e : frC p mtu = 1 := by unfold frC; rw [h]; rfl
    exact ⟨e, by unfold frL; rw [e]; rfl⟩
  simp only [ipL] at CK hP hB ⊢
  cases hk : ipOk p
  · rw [hk] at CK
    have HE := E0 (by unfold frOk; rw [hk]; rfl)
    rw [HE.out.1, HE.out.2]
    have a0 := hP.2 0 _ rfl; have a1 := hP.2 1 _ rfl; have a2 := hP.2 2 _ rfl; have a3 := hP.2 3 _ rfl; have a4 := hP.2 4 _ rfl; have a5 := hP.2 5 _ rfl; have a6 := hP.2 6 _ rfl; have a7 := hP.2 7 _ rfl; have a8 := hP.2 8 _ rfl; have a9 := hP.2 9 _ rfl; have a10 := hP.2 10 _ rfl
    clear E0 HE hk ho hd
    go_enter Try.func9, Try.ntmps9
    go_wp2_with (go_at_call 27; refine (CK.out _).mono ?_; rintro e w1 ⟨rfl, hb⟩)
    refine bodyPost_ret (v := .tuple #[.slice none 0 0, .int .i64 1]) ?_ rfl ⟨_, rfl, ownV.nil _ _ _ _, hB.trans (hb.mono hB.size)⟩
    simp [results, Try.results9, go_sem]
  · obtain ⟨ho40, hof0, hof1, hdz⟩ := ipOk_in hk
    rw [hk] at CK
    cases hm : inB mtu 68 65535
    · rw [hm] at CM
      have HE := E0 (by unfold frOk; rw [hk, hm]; rfl)
      rw [HE.out.1, HE.out.2]
      have a0 := hP.2 0 _ rfl; have a1 := hP.2 1 _ rfl; have a2 := hP.2 2 _ rfl; have a3 := hP.2 3 _ rfl; have a4 := hP.2 4 _ rfl; have a5 := hP.2 5 _ rfl; have a6 := hP.2 6 _ rfl; have a7 := hP.2 7 _ rfl; have a8 := hP.2 8 _ rfl; have a9 := hP.2 9 _ rfl; have a10 := hP.2 10 _ rfl
      clear E0 HE hk hm ho hd
      go_enter Try.func9, Try.ntmps9
      go_wp2_with (first | (go_at_call 27; refine (CK.out _).mono ?_; rintro e w1 ⟨rfl, hb⟩) | (go_at_call 28; refine (CM.out _).mono ?_; rintro e wz ⟨rfl, hz⟩; rw [hz]; clear hz wz))
      refine bodyPost_ret (v := .tuple #[.slice none 0 0, .int .i64 1]) ?_ rfl ⟨_, rfl, ownV.nil _ _ _ _, hB.trans (hb.mono hB.size)⟩
      simp [results, Try.results9, go_sem]
    · rw [hm] at CM
      have hmm : 68 ≤ mtu ∧ mtu ≤ 65535 := by unfold inB at hm; simp at hm; exact hm
      obtain ⟨hm0, hm1⟩ := hmm
      have EK : Hid (frC p mtu = if frSize p ≤ mtu then 0 else if p.df then 2 else if cpOk p.opts then 0 else 3) := by show _ = _; unfold frC; rw [show frOk p mtu = true by unfold frOk; rw [hk, hm]; rfl]; rfl
      have CH : Hid (∀ u : World, Calls Try.prog 29 #[.agg #[.int .i64 p.tos, .int .i64 p.id, .bool p.df, .bool p.mf, .int .i64 p.off, .int .i64 p.ttl, .int .i64 p.pro, .int .i64 p.src, .int .i64 p.dst, .string p.opts, .string p.data]] u fun e w' => e = .returned (.int .i64 (20 + (p.opts.size : Int))) ∧ Below u.heap.size u w') := fun u => (s_Head p u ho).mono fun _ _ ⟨he, hw⟩ => ⟨he, hw ▸ (Below.refl _ _).alloc (Nat.le_refl _) _⟩
      clear E0 hk hm
      have a0 := hP.2 0 _ rfl; have a1 := hP.2 1 _ rfl; have a2 := hP.2 2 _ rfl; have a3 := hP.2 3 _ rfl; have a4 := hP.2 4 _ rfl; have a5 := hP.2 5 _ rfl; have a6 := hP.2 6 _ rfl; have a7 := hP.2 7 _ rfl; have a8 := hP.2 8 _ rfl; have a9 := hP.2 9 _ rfl; have a10 := hP.2 10 _ rfl
      go_enter Try.func9, Try.ntmps9
      go_wp2_with fail
      refine (CK.out _).mono ?_
      rintro e w1 ⟨rfl, hb⟩
      go_wp2_with fail
      refine (CM.out _).mono ?_
      rintro e wz ⟨rfl, hz⟩
      rw [hz]
      clear hz wz a0 a1 a2 a3 a4 a5 a6 a7 a8 a9 a10 CK CM
      replace hP := hP.below hb
      replace hB := hB.trans (hb.mono hB.size)
      clear hb
      go_wp2_with fail
      have hne := BW.some w1
      have a0 := fun u : BW w1 => (hP.ofBW u).2 0 _ rfl; have a1 := fun u : BW w1 => (hP.ofBW u).2 1 _ rfl; have a2 := fun u : BW w1 => (hP.ofBW u).2 2 _ rfl; have a3 := fun u : BW w1 => (hP.ofBW u).2 3 _ rfl; have a4 := fun u : BW w1 => (hP.ofBW u).2 4 _ rfl; have a5 := fun u : BW w1 => (hP.ofBW u).2 5 _ rfl; have a6 := fun u : BW w1 => (hP.ofBW u).2 6 _ rfl; have a7 := fun u : BW w1 => (hP.ofBW u).2 7 _ rfl; have a8 := fun u : BW w1 => (hP.ofBW u).2 8 _ rfl; have a9 := fun u : BW w1 => (hP.ofBW u).2 9 _ rfl; have a10 := fun u : BW w1 => (hP.ofBW u).2 10 _ rfl
      refine wp_region_below (by kernel_rfl) (by kernel_rfl) ?_
      repeat (go_big_quiet_step (first | (go_at_call 29; exact Calls.into (CH.out _))))
      refine wpQuiet_nil ?_
      intro _ hw'
      obtain ⟨u, hw''⟩ := hw'
      subst hw''
      clear a0 a1 a2 a3 a4 a5 a6 a7 a8 a9 a10 hne
      replace hB := hB.trans (u.le.mono hB.size)
      replace hP := hP.ofBW u
      have b0 := hP.2 0 _ rfl; have b1 := hP.2 1 _ rfl; have b2 := hP.2 2 _ rfl; have b3 := hP.2 3 _ rfl; have b4 := hP.2 4 _ rfl; have b5 := hP.2 5 _ rfl; have b6 := hP.2 6 _ rfl; have b7 := hP.2 7 _ rfl; have b8 := hP.2 8 _ rfl; have b9 := hP.2 9 _ rfl; have b10 := hP.2 10 _ rfl
      by_cases hz : frSize p ≤ mtu
      · have HE : Hid (frC p mtu = 0 ∧ frL p mtu = [p]) := by
          have e : frC p mtu = 0 := by rw [EK.out, if_pos hz]
          exact ⟨e, by unfold frL; rw [if_pos e, frSeq_end hz]⟩
        have hzi : 20 + (p.opts.size : Int) + (p.data.size : Int) ≤ mtu := hz
        have hlit := World.ownsRow_lit (base := w.heap.size) (e := 28) (size := 11) u.u (ipL p) 1 hB.size (by decide) rfl
        have hl2 : Hid (ownV (u.u.alloc (.cells (ipL p) 28)) w.heap.size 28 11 (.slice (some ⟨u.u.heap.size, 0, none⟩) 1 1) [p].length (iqF [p])) := by rw [iqF_one]; exact hlit
        clear EK hz hlit
        simp only [ipL] at hl2
        go_wp2_with fail
        refine bodyPost_ret (v := .tuple #[.slice (some ⟨u.u.heap.size, 0, none⟩) 1 1, .int .i64 0]) ?_ rfl ⟨_, by rw [HE.out.1], by rw [HE.out.2]; exact hl2.out, hB.alloc hB.size _⟩
        simp [results, Try.results9, go_sem]
      · have hzi : ¬ 20 + (p.opts.size : Int) + (p.data.size : Int) ≤ mtu := hz
        cases hdf : p.df
        · rw [hdf] at b2
          have HS : Hid (frC p mtu = (if cpOk p.opts then 0 else 3)) := by show _ = _; rw [EK.out, if_neg hz, hdf]; rfl
          have CC : Hid (∀ u : World, Calls Try.prog 22 #[.string p.opts] u fun e w' => e = .returned (.tuple #[.string (cpText p.opts), .bool (cpOk p.opts)]) ∧ w' = u) := fun u => s_CopiedOpts p.opts u ho
          have hc40 := cpText_40 ho40
          clear EK
          cases hcp : cpOk p.opts
          · have HE : Hid (frC p mtu = 3 ∧ frL p mtu = []) := by
              have e : frC p mtu = 3 := by rw [HS.out, hcp]; rfl
              exact ⟨e, by unfold frL; rw [e]; rfl⟩
            rw [hcp] at CC
            clear HS hcp hdf hz
            go_wp2_with fail
            refine (CC.out _).mono ?_
            rintro e wz ⟨rfl, hq⟩
            rw [hq]
            clear hq wz
            go_wp2_with fail
            refine bodyPost_ret (v := .tuple #[.slice none 0 0, .int .i64 3]) ?_ rfl ⟨_, by rw [HE.out.1], by rw [HE.out.2]; exact ownV.nil _ _ _ _, hB⟩
            simp [results, Try.results9, go_sem]
          · have HE : Hid (frC p mtu = 0 ∧ frL p mtu = frSeq (cpText p.opts) mtu p) := by
              have e : frC p mtu = 0 := by rw [HS.out, hcp]; rfl
              exact ⟨e, by unfold frL; rw [if_pos e]⟩
            rw [hcp] at CC
            clear HS hcp hdf
            generalize cpText p.opts = c at *
            have hpos : 0 < p.data.size := by unfold frSize at hz; omega
            go_wp2_with fail
            refine (CC.out _).mono ?_
            rintro e wz ⟨rfl, hq⟩
            rw [hq]
            clear hq wz b0 b1 b2 b3 b4 b5 b6 b7 b8 b9 b10
            go_wp2_with fail
            have hlit := World.ownsRow_made (base := w.heap.size + 1) (e := 28) (size := 11) u.u #[] 0 hP.1 (by decide) rfl
            have hP0 : Bx (u.u.alloc (.cells #[] 28)) w.heap.size [.int .i64 p.tos, .int .i64 p.id, .bool p.df, .bool p.mf, .int .i64 p.off, .int .i64 p.ttl, .int .i64 p.pro, .int .i64 p.src, .int .i64 p.dst, .string p.opts, .string p.data] := hP.below ((Below.refl _ _).alloc (Nat.le_refl _) _)
            have hB0 := hB.alloc hB.size (.cells #[] 28)
            clear CC
            go_loopw [8, 9] (fun o i wr => ∃ (k : Nat) (L : List IpV), i = .int .i64 (k : Int) ∧ k ≤ p.data.size ∧ Hid (k < p.data.size ∧ k % 8 = 0 ∧ frSeq c mtu p = L ++ frSeq c mtu (frAt c p k) ∨ k = p.data.size ∧ frSeq c mtu p = L) ∧ L.length ≤ k ∧ ownV wr (w.heap.size + 1) 28 11 o L.length (iqF L) ∧ Bx wr w.heap.size [.int .i64 p.tos, .int .i64 p.id, .bool p.df, .bool p.mf, .int .i64 p.off, .int .i64 p.ttl, .int .i64 p.pro, .int .i64 p.src, .int .i64 p.dst, .string p.opts, .string p.data] ∧ Below w.heap.size w wr) (fun _ i _ => ((p.data.size : Int) - intF i).toNat)
            case atStart => exact ⟨0, [], rfl, by omega, .inl ⟨hpos, rfl, by rw [frAt_zero]; rfl⟩, by simp, hlit, hP0, hB0⟩
            case round =>
              clear hP hB hlit hP0 hB0 hpos
              obtain ⟨k, L, rfl, hk, HK, hL, hO, hP, hB⟩ := hrel
              have b0 := hP.2 0 _ rfl; have b1 := hP.2 1 _ rfl; have b2 := hP.2 2 _ rfl; have b3 := hP.2 3 _ rfl; have b4 := hP.2 4 _ rfl; have b5 := hP.2 5 _ rfl; have b6 := hP.2 6 _ rfl; have b7 := hP.2 7 _ rfl; have b8 := hP.2 8 _ rfl; have b9 := hP.2 9 _ rfl; have b10 := hP.2 10 _ rfl
              by_cases hkz : k < p.data.size
              · have hki : (k : Int) < (p.data.size : Int) := by omega
                obtain ⟨h8, HQ⟩ : k % 8 = 0 ∧ Hid (frSeq c mtu p = L ++ frSeq c mtu (frAt c p k)) := by
                  rcases HK.out with ⟨_, q, q2⟩ | ⟨q, _⟩
                  · exact ⟨q, q2⟩
                  · omega
                clear HK
                have hsz := frAt_size (c := c) (p := p) (k := k) hk
                have hmore := fr_more (c := c) (mtu := mtu) (p := p) (k := k) h8 hm0 hc40 ho40 hk
                have hfit := frSeq_end (c := c) (mtu := mtu) (p := frAt c p k)
                have hform : frAt c p k = ⟨p.tos, p.id, p.df, p.mf, p.off + (k : Int) / 8, p.ttl, p.pro, p.src, p.dst, (frAt c p k).opts, p.data.extract k p.data.size⟩ := rfl
                have hk0 : ¬ (0 : Int) < (k : Int) ∧ (frAt c p k).opts = p.opts ∨ (0 : Int) < (k : Int) ∧ (frAt c p k).opts = c := by
                  by_cases h0 : k = 0
                  · exact .inl ⟨by omega, by show (if k = 0 then p.opts else c) = _; rw [if_pos h0]⟩
                  · exact .inr ⟨by omega, by show (if k = 0 then p.opts else c) = _; rw [if_neg h0]⟩
                obtain ⟨q, hq⟩ : ∃ q, q = frAt c p k := ⟨_, rfl⟩
                rw [← hq] at hsz hmore hfit hform hk0 HQ
                obtain ⟨oo, hoo⟩ : ∃ oo, oo = q.opts := ⟨_, rfl⟩
                rw [← hoo] at hsz hmore hform hk0
                have hoo40 : oo.size ≤ 40 := by rcases hk0 with ⟨_, e⟩ | ⟨_, e⟩ <;> rw [e] <;> omega
                have HM : Hid (mtu < frSize q → ∃ r : Nat, (r : Int) = (mtu - (20 + (oo.size : Int))) / 8 * 8 ∧ k + r < p.data.size ∧ r % 8 = 0 ∧ 8 ≤ r ∧ frSeq c mtu q = ⟨p.tos, p.id, p.df, true, p.off + (k : Int) / 8, p.ttl, p.pro, p.src, p.dst, oo, p.data.extract k (k + r)⟩ :: frSeq c mtu (frAt c p (k + r))) := hmore
                have HFit : Hid (frSize q ≤ mtu → frSeq c mtu q = [⟨p.tos, p.id, p.df, p.mf, p.off + (k : Int) / 8, p.ttl, p.pro, p.src, p.dst, oo, p.data.extract k p.data.size⟩]) := fun h => by rw [hfit h, ← hform]
                clear hmore hfit hform hq hoo
                have hdv : Int.tdiv (k : Int) 8 = (k : Int) / 8 := Int.tdiv_eq_ediv_of_nonneg (by omega)
                have hd2 : Int.tdiv (mtu - (20 + (oo.size : Int))) 8 = (mtu - (20 + (oo.size : Int))) / 8 := Int.tdiv_eq_ediv_of_nonneg (by omega)
                have CHq : Hid (∀ u : World, Calls Try.prog 29 #[.agg #[.int .i64 p.tos, .int .i64 p.id, .bool p.df, .bool true, .int .i64 (p.off + (k : Int) / 8), .int .i64 p.ttl, .int .i64 p.pro, .int .i64 p.src, .int .i64 p.dst, .string oo, .string p.data]] u fun e w' => e = .returned (.int .i64 (20 + (oo.size : Int))) ∧ Below u.heap.size u w') := fun u => (s_Head ⟨p.tos, p.id, p.df, true, p.off + (k : Int) / 8, p.ttl, p.pro, p.src, p.dst, oo, p.data⟩ u (by dsimp only; omega)).mono fun _ _ ⟨he, hw⟩ => ⟨he, hw ▸ (Below.refl _ _).alloc (Nat.le_refl _) _⟩
                obtain ⟨T, cc, rfl⟩ := hO.form
                have hQ := Bx.new wr #[.int .i64 p.tos, .int .i64 p.id, .bool p.df, .bool true, .int .i64 (p.off + (k : Int) / 8), .int .i64 p.ttl, .int .i64 p.pro, .int .i64 p.src, .int .i64 p.dst, .string oo, .string p.data] 28
                have hQF := Fx.new wr #[.int .i64 p.tos, .int .i64 p.id, .bool p.df, .bool true, .int .i64 (p.off + (k : Int) / 8), .int .i64 p.ttl, .int .i64 p.pro, .int .i64 p.src, .int .i64 p.dst, .string oo, .string p.data] 28
                have hgp : w.heap.size < wr.heap.size := hP.1
                have hal := (Below.refl wr.heap.size wr).alloc (Nat.le_refl _) (.cells #[.int .i64 p.tos, .int .i64 p.id, .bool p.df, .bool true, .int .i64 (p.off + (k : Int) / 8), .int .i64 p.ttl, .int .i64 p.pro, .int .i64 p.src, .int .i64 p.dst, .string oo, .string p.data] 28)
                have hP1 := hP.below hal
                have hO1 := hO.far hal
                have hOb : ∀ x, (Value.slice T L.length cc).ownBlock = some x → wr.heap.size ≠ x := fun x e => by have := (World.ownsRow.lt hO x e).2; omega
                have hB1 := hB.trans (hal.mono hB.size)
                clear hO hB hP hal
                rcases hk0 with ⟨hk1, hoe⟩ | ⟨hk1, hoe⟩
                · subst hoe
                  go_wp2_with fail
                  refine (CHq.out _).mono ?_
                  rintro e w2 ⟨rfl, hb⟩
                  have hgB : w.heap.size ≤ wr.heap.size := by omega
                  have hgn : ¬ (w.heap.size = wr.heap.size) := by omega
                  have hgm : ¬ (wr.heap.size = w.heap.size) := by omega
                  replace hQ := hQ.below hb
                  replace hQF := hQF.below hb
                  replace hP1 := hP1.below hb
                  replace hO1 := hO1.far hb
                  replace hB1 := hB1.trans (hb.mono hB1.size)
                  clear hb b0 b1 b2 b3 b4 b5 b6 b7 b8 b9 b10 hgp
                  generalize wr.heap.size = g at *
                  go_wp2_with fail
                  have hne := BW.some w2
                  have a0 := fun u : BW w2 => (hQ.ofBW u).2 0 _ rfl; have a1 := fun u : BW w2 => (hQ.ofBW u).2 1 _ rfl; have a2 := fun u : BW w2 => (hQ.ofBW u).2 2 _ rfl; have a3 := fun u : BW w2 => (hQ.ofBW u).2 3 _ rfl; have a4 := fun u : BW w2 => (hQ.ofBW u).2 4 _ rfl; have a5 := fun u : BW w2 => (hQ.ofBW u).2 5 _ rfl; have a6 := fun u : BW w2 => (hQ.ofBW u).2 6 _ rfl; have a7 := fun u : BW w2 => (hQ.ofBW u).2 7 _ rfl; have a8 := fun u : BW w2 => (hQ.ofBW u).2 8 _ rfl; have a9 := fun u : BW w2 => (hQ.ofBW u).2 9 _ rfl; have a10 := fun u : BW w2 => (hQ.ofBW u).2 10 _ rfl
                  have p10 := fun u : BW w2 => (hP1.ofBW u).2 10 _ rfl
                  refine wp_region_below (by kernel_rfl) (by kernel_rfl) ?_
                  repeat (go_big_quiet_step (first | (go_at_call 29; exact Calls.into (CHq.out _))))
                  refine wpQuiet_nil ?_
                  intro _ hw'
                  obtain ⟨u, hw''⟩ := hw'
                  subst hw''
                  clear a0 a1 a2 a3 a4 a5 a6 a7 a8 a9 a10 p10 hne CHq
                  replace hB1 := hB1.trans (u.le.mono hB1.size)
                  replace hQ := hQ.ofBW u
                  replace hQF := hQF.below u.le
                  replace hP1 := hP1.ofBW u
                  replace hO1 := hO1.far u.le
                  generalize u.u = W3 at *
                  by_cases hz2 : frSize q ≤ mtu
                  · exfalso; unfold frSize at hz; omega
                  · obtain ⟨r, hr, hr1, hr2, hr3, hr4⟩ := HM.out (by omega)
                    have hzi2 : ¬ 20 + (p.opts.size : Int) + (p.data.size : Int) - (k : Int) ≤ mtu := by omega
                    have HL : Hid (frSeq _ mtu p = (L ++ [⟨p.tos, p.id, p.df, true, p.off + (k : Int) / 8, p.ttl, p.pro, p.src, p.dst, p.opts, (p.data.extract k (k + r))⟩]) ++ _) := HQ.out.trans (by rw [hr4, List.append_assoc]; rfl)
                    have p10 := hP1.2 10 _ rfl; have f10 := hQF.2 10; have q10 := hQ.2 10 _ rfl
                    have hQ3 : Bx (W3.setCell ⟨g, 10, none⟩ (.string (p.data.extract k (k + r)))) g [.int .i64 p.tos, .int .i64 p.id, .bool p.df, .bool true, .int .i64 (p.off + (k : Int) / 8), .int .i64 p.ttl, .int .i64 p.pro, .int .i64 p.src, .int .i64 p.dst, .string p.opts, .string (p.data.extract k (k + r))] := hQ.put 10 (.string (p.data.extract k (k + r)))
                    have z0 := hQ3.2 0 _ rfl; have z1 := hQ3.2 1 _ rfl; have z2 := hQ3.2 2 _ rfl; have z3 := hQ3.2 3 _ rfl; have z4 := hQ3.2 4 _ rfl; have z5 := hQ3.2 5 _ rfl; have z6 := hQ3.2 6 _ rfl; have z7 := hQ3.2 7 _ rfl; have z8 := hQ3.2 8 _ rfl; have z9 := hQ3.2 9 _ rfl; have z10 := hQ3.2 10 _ rfl
                    have hO3 := hO1.asideF hOb 10 (.string (p.data.extract k (k + r)))
                    have hB3 := hB1.setCell (p := ⟨g, 10, none⟩) hgB (.string (p.data.extract k (k + r)))
                    have hP3 : Bx (W3.setCell ⟨g, 10, none⟩ (.string (p.data.extract k (k + r)))) w.heap.size _ := Bx.othF hP1 (c := g) (j := 10) hgm (.string (p.data.extract k (k + r)))
                    have hr' : (mtu - (20 + (p.opts.size : Int))) / 8 * 8 = (r : Int) := hr.symm
                    have t1 : ((k : Int) + (r : Int)).toNat = k + r := by omega
                    have t2 : (k : Int) ≤ (k : Int) + (r : Int) := by omega
                    have t3 : (k : Int) + (r : Int) ≤ (p.data.size : Int) := by omega
                    have hs9 : w.heap.size < W3.heap.size := hP1.1
                    have hLl : L.length + 1 ≤ 1099511627776 := by omega
                    have hone : ∀ u ∈ ([.int .i64 p.tos, .int .i64 p.id, .bool p.df, .bool true, .int .i64 (p.off + (k : Int) / 8), .int .i64 p.ttl, .int .i64 p.pro, .int .i64 p.src, .int .i64 p.dst, .string p.opts, .string (p.data.extract k (k + r))] : List Value), u.oneCell' = true := oneIp ⟨p.tos, p.id, p.df, true, p.off + (k : Int) / 8, p.ttl, p.pro, p.src, p.dst, p.opts, (p.data.extract k (k + r))⟩
                    clear HM HFit HQ hz2 hsz hr hr4
                    go_wp2_with (at_builtin; refine wpList_append_vals Try.infIp rfl _ _ rfl (w.heap.size + 1) _ _ _ rfl (hO3.alloc _) _ 1 1 [.int .i64 p.tos, .int .i64 p.id, .bool p.df, .bool true, .int .i64 (p.off + (k : Int) / 8), .int .i64 p.ttl, .int .i64 p.pro, .int .i64 p.src, .int .i64 p.dst, .string p.opts, .string (p.data.extract k (k + r))] rfl (by simp) rfl hone (cells_newS _ _ (by simp) [.int .i64 p.tos, .int .i64 p.id, .bool p.df, .bool true, .int .i64 (p.off + (k : Int) / 8), .int .i64 p.ttl, .int .i64 p.pro, .int .i64 p.src, .int .i64 p.dst, .string p.opts, .string (p.data.extract k (k + r))] _) (by omega) (by simp; omega) ?_; intro v' wA hoA hbA)
                    go_roundw
                    case rel => exact ⟨k + r, L ++ [⟨p.tos, p.id, p.df, true, p.off + (k : Int) / 8, p.ttl, p.pro, p.src, p.dst, p.opts, (p.data.extract k (k + r))⟩], by go_num, by omega, .inl ⟨by omega, by omega, HL.out⟩, by rw [List.length_append]; simp; omega, by rw [iqF_app, List.length_append]; exact hoA, Bx.belF (hP3.below ((Below.refl _ _).alloc (Nat.le_refl _) _)) hbA (Nat.lt_succ_self _), (hB3.alloc hB3.size _).trans (hbA.mono (Nat.le_succ _))⟩
                    case measure => simp [intF]; omega
                · subst hoe
                  go_wp2_with fail
                  refine (CHq.out _).mono ?_
                  rintro e w2 ⟨rfl, hb⟩
                  have hgB : w.heap.size ≤ wr.heap.size := by omega
                  have hgn : ¬ (w.heap.size = wr.heap.size) := by omega
                  have hgm : ¬ (wr.heap.size = w.heap.size) := by omega
                  replace hQ := hQ.below hb
                  replace hQF := hQF.below hb
                  replace hP1 := hP1.below hb
                  replace hO1 := hO1.far hb
                  replace hB1 := hB1.trans (hb.mono hB1.size)
                  clear hb b0 b1 b2 b3 b4 b5 b6 b7 b8 b9 b10 hgp
                  generalize wr.heap.size = g at *
                  go_wp2_with fail
                  have hne := BW.some w2
                  have a0 := fun u : BW w2 => (hQ.ofBW u).2 0 _ rfl; have a1 := fun u : BW w2 => (hQ.ofBW u).2 1 _ rfl; have a2 := fun u : BW w2 => (hQ.ofBW u).2 2 _ rfl; have a3 := fun u : BW w2 => (hQ.ofBW u).2 3 _ rfl; have a4 := fun u : BW w2 => (hQ.ofBW u).2 4 _ rfl; have a5 := fun u : BW w2 => (hQ.ofBW u).2 5 _ rfl; have a6 := fun u : BW w2 => (hQ.ofBW u).2 6 _ rfl; have a7 := fun u : BW w2 => (hQ.ofBW u).2 7 _ rfl; have a8 := fun u : BW w2 => (hQ.ofBW u).2 8 _ rfl; have a9 := fun u : BW w2 => (hQ.ofBW u).2 9 _ rfl; have a10 := fun u : BW w2 => (hQ.ofBW u).2 10 _ rfl
                  have p10 := fun u : BW w2 => (hP1.ofBW u).2 10 _ rfl
                  refine wp_region_below (by kernel_rfl) (by kernel_rfl) ?_
                  repeat (go_big_quiet_step (first | (go_at_call 29; exact Calls.into (CHq.out _))))
                  refine wpQuiet_nil ?_
                  intro _ hw'
                  obtain ⟨u, hw''⟩ := hw'
                  subst hw''
                  clear a0 a1 a2 a3 a4 a5 a6 a7 a8 a9 a10 p10 hne CHq
                  replace hB1 := hB1.trans (u.le.mono hB1.size)
                  replace hQ := hQ.ofBW u
                  replace hQF := hQF.below u.le
                  replace hP1 := hP1.ofBW u
                  replace hO1 := hO1.far u.le
                  generalize u.u = W3 at *
                  by_cases hz2 : frSize q ≤ mtu
                  · have hzi2 : 20 + (oo.size : Int) + (p.data.size : Int) - (k : Int) ≤ mtu := by omega
                    have HL : Hid (frSeq _ mtu p = L ++ [_]) := HQ.out.trans (by rw [HFit.out hz2])
                    have p3 := hP1.2 3 _ rfl; have p10 := hP1.2 10 _ rfl; have f3 := hQF.2 3; have f10 := hQF.2 10; have q3 := hQ.2 3 _ rfl; have q10 := hQ.2 10 _ rfl
                    have hQ3 : Bx ((W3.setCell ⟨g, 3, none⟩ (.bool p.mf)).setCell ⟨g, 10, none⟩ (.string (p.data.extract k p.data.size))) g [.int .i64 p.tos, .int .i64 p.id, .bool p.df, .bool p.mf, .int .i64 (p.off + (k : Int) / 8), .int .i64 p.ttl, .int .i64 p.pro, .int .i64 p.src, .int .i64 p.dst, .string oo, .string (p.data.extract k p.data.size)] := (hQ.put 3 (.bool p.mf)).put 10 (.string (p.data.extract k p.data.size))
                    have z0 := hQ3.2 0 _ rfl; have z1 := hQ3.2 1 _ rfl; have z2 := hQ3.2 2 _ rfl; have z3 := hQ3.2 3 _ rfl; have z4 := hQ3.2 4 _ rfl; have z5 := hQ3.2 5 _ rfl; have z6 := hQ3.2 6 _ rfl; have z7 := hQ3.2 7 _ rfl; have z8 := hQ3.2 8 _ rfl; have z9 := hQ3.2 9 _ rfl; have z10 := hQ3.2 10 _ rfl
                    have hO3 := (hO1.asideF hOb 3 (.bool p.mf)).asideF hOb 10 (.string (p.data.extract k p.data.size))
                    have hB3 := (hB1.setCell (p := ⟨g, 3, none⟩) hgB (.bool p.mf)).setCell (p := ⟨g, 10, none⟩) hgB (.string (p.data.extract k p.data.size))
                    have hP3 : Bx ((W3.setCell ⟨g, 3, none⟩ (.bool p.mf)).setCell ⟨g, 10, none⟩ (.string (p.data.extract k p.data.size))) w.heap.size _ := Bx.othF (Bx.othF hP1 (c := g) (j := 3) hgm (.bool p.mf)) (c := g) (j := 10) hgm (.string (p.data.extract k p.data.size))
                    have t1 : (k : Int) + ((p.data.size : Int) - (k : Int)) = (p.data.size : Int) := by omega
                    have t2 : (k : Int) ≤ (p.data.size : Int) := by omega
                    have hs9 : w.heap.size < W3.heap.size := hP1.1
                    have hLl : L.length + 1 ≤ 1099511627776 := by omega
                    have hone : ∀ u ∈ ([.int .i64 p.tos, .int .i64 p.id, .bool p.df, .bool p.mf, .int .i64 (p.off + (k : Int) / 8), .int .i64 p.ttl, .int .i64 p.pro, .int .i64 p.src, .int .i64 p.dst, .string oo, .string (p.data.extract k p.data.size)] : List Value), u.oneCell' = true := oneIp ⟨p.tos, p.id, p.df, p.mf, p.off + (k : Int) / 8, p.ttl, p.pro, p.src, p.dst, oo, p.data.extract k p.data.size⟩
                    clear HM HFit HQ hz2 hsz
                    go_wp2_with (at_builtin; refine wpList_append_vals Try.infIp rfl _ _ rfl (w.heap.size + 1) _ _ _ rfl (hO3.alloc _) _ 1 1 [.int .i64 p.tos, .int .i64 p.id, .bool p.df, .bool p.mf, .int .i64 (p.off + (k : Int) / 8), .int .i64 p.ttl, .int .i64 p.pro, .int .i64 p.src, .int .i64 p.dst, .string oo, .string (p.data.extract k p.data.size)] rfl (by simp) rfl hone (cells_newS _ _ (by simp) [.int .i64 p.tos, .int .i64 p.id, .bool p.df, .bool p.mf, .int .i64 (p.off + (k : Int) / 8), .int .i64 p.ttl, .int .i64 p.pro, .int .i64 p.src, .int .i64 p.dst, .string oo, .string (p.data.extract k p.data.size)] _) (by omega) (by simp; omega) ?_; intro v' wA hoA hbA)
                    go_roundw
                    case rel => exact ⟨p.data.size, L ++ [⟨p.tos, p.id, p.df, p.mf, p.off + (k : Int) / 8, p.ttl, p.pro, p.src, p.dst, oo, (p.data.extract k p.data.size)⟩], by go_num, by omega, .inr ⟨rfl, HL.out⟩, by rw [List.length_append]; simp; omega, by rw [iqF_app, List.length_append]; exact hoA, Bx.belF (hP3.below ((Below.refl _ _).alloc (Nat.le_refl _) _)) hbA (Nat.lt_succ_self _), (hB3.alloc hB3.size _).trans (hbA.mono (Nat.le_succ _))⟩
                    case measure => simp [intF]; omega
                  · obtain ⟨r, hr, hr1, hr2, hr3, hr4⟩ := HM.out (by omega)
                    have hzi2 : ¬ 20 + (oo.size : Int) + (p.data.size : Int) - (k : Int) ≤ mtu := by omega
                    have HL : Hid (frSeq _ mtu p = (L ++ [⟨p.tos, p.id, p.df, true, p.off + (k : Int) / 8, p.ttl, p.pro, p.src, p.dst, oo, (p.data.extract k (k + r))⟩]) ++ _) := HQ.out.trans (by rw [hr4, List.append_assoc]; rfl)
                    have p10 := hP1.2 10 _ rfl; have f10 := hQF.2 10; have q10 := hQ.2 10 _ rfl
                    have hQ3 : Bx (W3.setCell ⟨g, 10, none⟩ (.string (p.data.extract k (k + r)))) g [.int .i64 p.tos, .int .i64 p.id, .bool p.df, .bool true, .int .i64 (p.off + (k : Int) / 8), .int .i64 p.ttl, .int .i64 p.pro, .int .i64 p.src, .int .i64 p.dst, .string oo, .string (p.data.extract k (k + r))] := hQ.put 10 (.string (p.data.extract k (k + r)))
                    have z0 := hQ3.2 0 _ rfl; have z1 := hQ3.2 1 _ rfl; have z2 := hQ3.2 2 _ rfl; have z3 := hQ3.2 3 _ rfl; have z4 := hQ3.2 4 _ rfl; have z5 := hQ3.2 5 _ rfl; have z6 := hQ3.2 6 _ rfl; have z7 := hQ3.2 7 _ rfl; have z8 := hQ3.2 8 _ rfl; have z9 := hQ3.2 9 _ rfl; have z10 := hQ3.2 10 _ rfl
                    have hO3 := hO1.asideF hOb 10 (.string (p.data.extract k (k + r)))
                    have hB3 := hB1.setCell (p := ⟨g, 10, none⟩) hgB (.string (p.data.extract k (k + r)))
                    have hP3 : Bx (W3.setCell ⟨g, 10, none⟩ (.string (p.data.extract k (k + r)))) w.heap.size _ := Bx.othF hP1 (c := g) (j := 10) hgm (.string (p.data.extract k (k + r)))
                    have hr' : (mtu - (20 + (oo.size : Int))) / 8 * 8 = (r : Int) := hr.symm
                    have t1 : ((k : Int) + (r : Int)).toNat = k + r := by omega
                    have t2 : (k : Int) ≤ (k : Int) + (r : Int) := by omega
                    have t3 : (k : Int) + (r : Int) ≤ (p.data.size : Int) := by omega
                    have hs9 : w.heap.size < W3.heap.size := hP1.1
                    have hLl : L.length + 1 ≤ 1099511627776 := by omega
                    have hone : ∀ u ∈ ([.int .i64 p.tos, .int .i64 p.id, .bool p.df, .bool true, .int .i64 (p.off + (k : Int) / 8), .int .i64 p.ttl, .int .i64 p.pro, .int .i64 p.src, .int .i64 p.dst, .string oo, .string (p.data.extract k (k + r))] : List Value), u.oneCell' = true := oneIp ⟨p.tos, p.id, p.df, true, p.off + (k : Int) / 8, p.ttl, p.pro, p.src, p.dst, oo, (p.data.extract k (k + r))⟩
                    clear HM HFit HQ hz2 hsz hr hr4
                    go_wp2_with (at_builtin; refine wpList_append_vals Try.infIp rfl _ _ rfl (w.heap.size + 1) _ _ _ rfl (hO3.alloc _) _ 1 1 [.int .i64 p.tos, .int .i64 p.id, .bool p.df, .bool true, .int .i64 (p.off + (k : Int) / 8), .int .i64 p.ttl, .int .i64 p.pro, .int .i64 p.src, .int .i64 p.dst, .string oo, .string (p.data.extract k (k + r))] rfl (by simp) rfl hone (cells_newS _ _ (by simp) [.int .i64 p.tos, .int .i64 p.id, .bool p.df, .bool true, .int .i64 (p.off + (k : Int) / 8), .int .i64 p.ttl, .int .i64 p.pro, .int .i64 p.src, .int .i64 p.dst, .string oo, .string (p.data.extract k (k + r))] _) (by omega) (by simp; omega) ?_; intro v' wA hoA hbA)
                    go_roundw
                    case rel => exact ⟨k + r, L ++ [⟨p.tos, p.id, p.df, true, p.off + (k : Int) / 8, p.ttl, p.pro, p.src, p.dst, oo, (p.data.extract k (k + r))⟩], by go_num, by omega, .inl ⟨by omega, by omega, HL.out⟩, by rw [List.length_append]; simp; omega, by rw [iqF_app, List.length_append]; exact hoA, Bx.belF (hP3.below ((Below.refl _ _).alloc (Nat.le_refl _) _)) hbA (Nat.lt_succ_self _), (hB3.alloc hB3.size _).trans (hbA.mono (Nat.le_succ _))⟩
                    case measure => simp [intF]; omega
              · have HF : Hid (frL p mtu = L) := by
                  show _ = _
                  rw [HE.out.2]
                  rcases HK.out with ⟨q, _⟩ | ⟨_, q⟩
                  · omega
                  · exact q
                clear HK
                obtain ⟨T, cc, rfl⟩ := hO.form
                go_wp2_with fail
                refine bodyPost_ret (v := .tuple #[.slice T L.length cc, .int .i64 0]) ?_ rfl ⟨_, by rw [HE.out.1], by rw [HF.out]; exact hO.mono (Nat.le_succ _), hB⟩
                simp [results, Try.results9, go_sem]
        · have HE : Hid (frC p mtu = 2 ∧ frL p mtu = []) := by
            have e : frC p mtu = 2 := by rw [EK.out, if_neg hz, hdf]; rfl
            exact ⟨e, by unfold frL; rw [e]; rfl⟩
          rw [hdf] at b2
          clear EK hz hdf
          go_wp2_with fail
          refine bodyPost_ret (v := .tuple #[.slice none 0 0, .int .i64 2]) ?_ rfl ⟨_, by rw [HE.out.1], by rw [HE.out.2]; exact ownV.nil _ _ _ _, hB⟩
          simp [results, Try.results9, go_sem]
end Go.Proofs.Ytgfpoohjbgdcpaa
