/-
  The pieces of a datagram: the program's Fragments.
-/
import Derived.Test.YtgfpoohjbgdcpaaFrg4
import Derived.Test.YtgfpoohjbgdcpaaFrg2
namespace Go.Proofs.Ytgfpoohjbgdcpaa
open Go.RowKit Go.PlainAid Go.Shelf Go.Sort
attribute [local go_sem] Oper.semAt_some
theorem KpF.trans {c0 G : Nat} {A B C : World} (h : KpF c0 G A B) (k : KpF c0 G B C) : KpF c0 G A C := ⟨Nat.le_trans h.1 k.1, fun i hi hl => (k.2 i hi (Nat.lt_of_lt_of_le hl h.1)).trans (h.2 i hi hl)⟩
theorem Bx.allocF {W : World} {b : Nat} {vs : List Value} (h : Bx W b vs) (o : Obj) : Bx (W.alloc o) b vs := h.below ((Below.refl _ W).alloc (Nat.le_refl _) o)
theorem ownV.keptF {w w' : World} {B : Nat} {E : TypeId} {k : Nat} {v : Value} {n : Nat} {xs : List Value} {row : Option Nat} (h : ownV w B E k v n xs) (hg : w.grownBy w' row) (hne : ∀ b, B ≤ b → ¬ row = some b) : ownV w' B E k v n xs := by
  refine World.ownsRow.kept h hg ?_
  rcases h.2 with ⟨rfl, _⟩ | ⟨g, cap, cur, rfl, hb, _, _⟩
  · exact .inl rfl
  · exact .inr fun e => hne g hb (by simpa [Value.ownBlock] using e.symm)
theorem Boxed.appendedF {W w1 : World} {O : Nat} {v v' : Value} {k m : Nat} {xs ys : List Value} {tmp : Obj}
    (hv : Boxed W O 25 v) (hrow : ownV W (O + 7) 28 11 v k xs) (hs : O + 7 ≤ W.heap.size)
    (hown' : w1.ownsRow (O + 7) 28 11 v' m ys) (hgrow : (W.alloc tmp).grownBy w1 v.ownBlock) :
    Boxed w1 O 25 v ∧ Boxed (w1.setCell ⟨O, 0, none⟩ v') O 25 v' ∧ ownV (w1.setCell ⟨O, 0, none⟩ v') (O + 7) 28 11 v' m ys ∧ (∀ k, k < O + 7 → k ≠ O → (w1.setCell ⟨O, 0, none⟩ v').heap[k]? = W.heap[k]?) ∧ Below O W (w1.setCell ⟨O, 0, none⟩ v') := by
  have hne := hv.not_row (by decide) hrow
  have hv1 : Boxed w1 O 25 v := (hv.alloc tmp).kept hgrow hne
  have hlt := fun b hb => (World.ownsRow.lt hrow b hb).1
  refine ⟨hv1, hv1.set v', hown'.kept (grownBy_setCell' w1 O v') (.inr (hv1.not_row (by decide) hown').symm), fun k hk hne2 => ?_, ?_⟩
  · rw [(grownBy_setCell' w1 O v').block k (Nat.lt_of_lt_of_le (show k < (W.alloc tmp).heap.size by simp; omega) hgrow.size) (by simpa using hne2)]
    rw [hgrow.block k (by simp; omega) (fun e => by have := hlt k e.symm; omega)]
    exact Below.heap_alloc _ _ _ (by omega)
  · exact (((Below.refl O W).alloc (by omega) tmp).grown hgrow (by simp; omega) (fun j e => by have := hlt j e; omega)).setCell (p := ⟨O, 0, none⟩) (Nat.le_refl _) v'
theorem Bx.keptF {A B : World} {b : Nat} {vs : List Value} {row : Option Nat} (h : Bx A b vs) (hg : A.grownBy B row) (hne : ¬ row = some b) : Bx B b vs :=
  ⟨Nat.lt_of_lt_of_le h.1 hg.size, fun i v hv => (World.cell?_of_block (w := A) (a := ⟨b, i, none⟩) (hg.block b h.1 (fun e => hne e.symm))).trans (h.2 i v hv)⟩
theorem frSeqF_len (c : ByteArray) (mtu : Int) : ∀ f p, (frSeqF c mtu f p).length ≤ f + 1 := by
  intro f
  induction f with
  | zero => intro p; simp [frSeqF]
  | succ f ih =>
    intro p; unfold frSeqF; split
    · simp
    · have := ih (frMove c mtu p); simp; omega
theorem frSeq_len (c : ByteArray) (mtu : Int) (p : IpV) (h : p.data.size ≤ 65535) : (frSeq c mtu p).length ≤ 65536 := by
  have := frSeqF_len c mtu p.data.size p; unfold frSeq; omega
theorem fr_boxes {w w3 : World} (hB : Below w.heap.size w (w3.alloc (.cells #[.slice none 0 0] 25))) (bO : Boxed (w3.alloc (.cells #[.slice none 0 0] 25)) w3.heap.size 25 (.slice none 0 0)) (p : IpV) (c : ByteArray) (mtu : Int) (w5 : World)
    (h : w5 = (((w3.alloc (.cells #[.slice none 0 0] 25)).alloc (.cells #[.int .i64 p.tos, .int .i64 p.id, .bool p.df, .bool p.mf, .int .i64 p.off, .int .i64 p.ttl, .int .i64 p.pro, .int .i64 p.src, .int .i64 p.dst, .string p.opts, .string p.data] 28)).alloc (.cells #[.string c] 9)).alloc (.cells #[.int .i64 mtu] 2)) :
    w5.heap.size = w3.heap.size + 4 ∧ Below w.heap.size w w5 ∧ Boxed w5 w3.heap.size 25 (.slice none 0 0) ∧ Bx w5 (w3.heap.size + 1) (ipL p).toList ∧ w5.cell? ⟨w3.heap.size + 2, 0, none⟩ = some (.string c) ∧ w5.cell? ⟨w3.heap.size + 3, 0, none⟩ = some (.int .i64 mtu) := by
  have hP := Bx.new (w3.alloc (.cells #[.slice none 0 0] 25)) (ipL p) 28
  simp only [ipL] at hP
  have hC := Boxed.new ((w3.alloc (.cells #[.slice none 0 0] 25)).alloc (.cells #[.int .i64 p.tos, .int .i64 p.id, .bool p.df, .bool p.mf, .int .i64 p.off, .int .i64 p.ttl, .int .i64 p.pro, .int .i64 p.src, .int .i64 p.dst, .string p.opts, .string p.data] 28)) 9 (.string c)
  have hM := Boxed.new (((w3.alloc (.cells #[.slice none 0 0] 25)).alloc (.cells #[.int .i64 p.tos, .int .i64 p.id, .bool p.df, .bool p.mf, .int .i64 p.off, .int .i64 p.ttl, .int .i64 p.pro, .int .i64 p.src, .int .i64 p.dst, .string p.opts, .string p.data] 28)).alloc (.cells #[.string c] 9)) 2 (.int .i64 mtu)
  simp only [World.size_alloc] at hP hC hM
  subst h
  exact ⟨by simp only [World.size_alloc], ((hB.alloc hB.size _).alloc (hB.alloc hB.size _).size _).alloc ((hB.alloc hB.size _).alloc (hB.alloc hB.size _).size _).size _, ((bO.alloc _).alloc _).alloc _, (hP.allocF _).allocF _, (hC.alloc _).cell, hM.cell⟩
set_option maxRecDepth 100000 in
set_option maxHeartbeats 12800000 in
theorem i_Fragments (p : IpV) (mtu : Int) (w : World) (ho : p.opts.size ≤ 1099511627776) (hd : p.data.size ≤ 1099511627776) :
    Calls Try.prog 11 #[.agg (ipL p), .int .i64 mtu] w fun e w' => ∃ v, e = .returned (.tuple #[v, .int .i64 (frC p mtu)]) ∧ ownV w' w.heap.size 28 11 v (frL p mtu).length (iqF (frL p mtu)) ∧ Below w.heap.size w w' := by
  have CK : Hid (∀ u : World, Calls Try.prog 19 #[.agg (ipL p)] u fun e w' => e = .returned (.bool (ipOk p)) ∧ Below u.heap.size u w') := fun u => i_IpOk p u ho hd
  have CM : Hid (∀ u : World, Calls Try.prog 30 #[.int .i64 mtu] u fun e w' => e = .returned (.bool (inB mtu 68 65535)) ∧ w' = u) := fun u => i_isMtu mtu u
  have CZ : Hid (∀ u : World, Calls Try.prog 31 #[.agg (ipL p)] u fun e w' => e = .returned (.int .i64 (frSize p)) ∧ Below u.heap.size u w') := fun u => i_ipSize p u ho hd
  have CC : Hid (∀ u : World, Calls Try.prog 32 #[.string p.opts] u fun e w' => e = .returned (.tuple #[.string (cpText p.opts), .bool (cpOk p.opts)]) ∧ Below u.heap.size u w') := fun u => i_CopiedOpts p.opts u ho
  have CP : Hid (∀ u : World, Calls Try.prog 33 #[.agg (ipL p), .string (cpText p.opts), .int .i64 mtu] u fun e w' =>
    e = .returned (.func (.func 57) #[] #[.pointer (some ⟨u.heap.size, 0, none⟩), .pointer (some ⟨u.heap.size + 1 + 1, 0, none⟩), .pointer (some ⟨u.heap.size + 1, 0, none⟩)]) ∧ w' = ((u.alloc (.cells (ipL p) 28)).alloc (.cells #[.string (cpText p.opts)] 9)).alloc (.cells #[.int .i64 mtu] 2)) := fun u => i_piecesOf p _ mtu u
  have hP := Bx.new w (ipL p) 28
  have hB := (Below.refl w.heap.size w).alloc (Nat.le_refl _) (.cells (ipL p) 28)
  have E0 : frOk p mtu = false → Hid (frC p mtu = 1 ∧ frL p mtu = []) := fun h => by
    have e : frC p mtu = 1 := by unfold frC; rw [h]; rfl
    exact ⟨e, by unfold frL; rw [e]; rfl⟩
  simp only [ipL] at CK CZ CP hP hB ⊢
  cases hk : ipOk p
  · rw [hk] at CK
    have HE := E0 (by unfold frOk; rw [hk]; rfl)
    rw [HE.out.1, HE.out.2]
    have a0 := hP.2 0 _ rfl; have a1 := hP.2 1 _ rfl; have a2 := hP.2 2 _ rfl; have a3 := hP.2 3 _ rfl; have a4 := hP.2 4 _ rfl; have a5 := hP.2 5 _ rfl; have a6 := hP.2 6 _ rfl; have a7 := hP.2 7 _ rfl; have a8 := hP.2 8 _ rfl; have a9 := hP.2 9 _ rfl; have a10 := hP.2 10 _ rfl
    clear E0 HE hk ho hd CZ CC CP CM
    go_enter Try.func11, Try.ntmps11
    go_wp2_with (go_at_call 19; refine (CK.out _).mono ?_; rintro e w1 ⟨rfl, hb⟩)
    refine bodyPost_ret (v := .tuple #[.slice none 0 0, .int .i64 1]) ?_ rfl ⟨_, rfl, ownV.nil _ _ _ _, hB.trans (hb.mono hB.size)⟩
    simp [results, Try.results11, go_sem]
  · obtain ⟨ho40, hof0, hof1, hdz⟩ := ipOk_in hk
    rw [hk] at CK
    cases hm : inB mtu 68 65535
    · rw [hm] at CM
      have HE := E0 (by unfold frOk; rw [hk, hm]; rfl)
      rw [HE.out.1, HE.out.2]
      have a0 := hP.2 0 _ rfl; have a1 := hP.2 1 _ rfl; have a2 := hP.2 2 _ rfl; have a3 := hP.2 3 _ rfl; have a4 := hP.2 4 _ rfl; have a5 := hP.2 5 _ rfl; have a6 := hP.2 6 _ rfl; have a7 := hP.2 7 _ rfl; have a8 := hP.2 8 _ rfl; have a9 := hP.2 9 _ rfl; have a10 := hP.2 10 _ rfl
      clear E0 HE hk hm ho hd CZ CC CP
      go_enter Try.func11, Try.ntmps11
      go_wp2_with (first | (go_at_call 19; refine (CK.out _).mono ?_; rintro e w1 ⟨rfl, hb⟩) | (go_at_call 30; refine (CM.out _).mono ?_; rintro e wz ⟨rfl, hz⟩; rw [hz]; clear hz wz))
      refine bodyPost_ret (v := .tuple #[.slice none 0 0, .int .i64 1]) ?_ rfl ⟨_, rfl, ownV.nil _ _ _ _, hB.trans (hb.mono hB.size)⟩
      simp [results, Try.results11, go_sem]
    · rw [hm] at CM
      have hmm : 68 ≤ mtu ∧ mtu ≤ 65535 := by unfold inB at hm; simp at hm; exact hm
      obtain ⟨hm0, hm1⟩ := hmm
      have EK : Hid (frC p mtu = if frSize p ≤ mtu then 0 else if p.df then 2 else if cpOk p.opts then 0 else 3) := by show _ = _; unfold frC; rw [show frOk p mtu = true by unfold frOk; rw [hk, hm]; rfl]; rfl
      clear E0 hk hm
      by_cases h2 : ¬ frSize p ≤ mtu ∧ p.df = true
      · have HE : Hid (frC p mtu = 2 ∧ frL p mtu = []) := by
          have e : frC p mtu = 2 := by rw [EK.out, if_neg h2.1, h2.2]; rfl
          exact ⟨e, by unfold frL; rw [e]; rfl⟩
        rw [HE.out.1, HE.out.2]
        have hzi : mtu < frSize p := by omega
        have hdf := h2.2
        rw [hdf] at CK CZ CP hP hB ⊢
        clear EK HE h2 ho hd CC CP hdf
        have a0 := hP.2 0 _ rfl; have a1 := hP.2 1 _ rfl; have a2 := hP.2 2 _ rfl; have a3 := hP.2 3 _ rfl; have a4 := hP.2 4 _ rfl; have a5 := hP.2 5 _ rfl; have a6 := hP.2 6 _ rfl; have a7 := hP.2 7 _ rfl; have a8 := hP.2 8 _ rfl; have a9 := hP.2 9 _ rfl; have a10 := hP.2 10 _ rfl
        go_enter Try.func11, Try.ntmps11
        go_wp2_with fail
        refine (CK.out _).mono ?_
        rintro e w1 ⟨rfl, hb⟩
        replace hP := hP.below hb; replace hB := hB.trans (hb.mono hB.size)
        clear hb a0 a1 a2 a3 a4 a5 a6 a7 a8 a9 a10
        have a0 := hP.2 0 _ rfl; have a1 := hP.2 1 _ rfl; have a2 := hP.2 2 _ rfl; have a3 := hP.2 3 _ rfl; have a4 := hP.2 4 _ rfl; have a5 := hP.2 5 _ rfl; have a6 := hP.2 6 _ rfl; have a7 := hP.2 7 _ rfl; have a8 := hP.2 8 _ rfl; have a9 := hP.2 9 _ rfl; have a10 := hP.2 10 _ rfl
        go_wp2_with fail
        refine (CM.out _).mono ?_
        rintro e wz ⟨rfl, hz⟩
        rw [hz]
        clear hz wz
        go_wp2_with fail
        refine (CZ.out _).mono ?_
        rintro e w2 ⟨rfl, hb⟩
        replace hP := hP.below hb; replace hB := hB.trans (hb.mono hB.size)
        clear hb a0 a1 a2 a3 a4 a5 a6 a7 a8 a9 a10 CK CM CZ
        have a0 := hP.2 0 _ rfl; have a1 := hP.2 1 _ rfl; have a2 := hP.2 2 _ rfl; have a3 := hP.2 3 _ rfl; have a4 := hP.2 4 _ rfl; have a5 := hP.2 5 _ rfl; have a6 := hP.2 6 _ rfl; have a7 := hP.2 7 _ rfl; have a8 := hP.2 8 _ rfl; have a9 := hP.2 9 _ rfl; have a10 := hP.2 10 _ rfl
        go_wp2
        refine bodyPost_ret (v := .tuple #[.slice none 0 0, .int .i64 2]) ?_ rfl ⟨_, rfl, ownV.nil _ _ _ _, hB⟩
        simp [results, Try.results11, go_sem]
      · have hh : (frSize p ≤ mtu ∨ mtu < frSize p ∧ p.df = false ∧ cpOk p.opts = true) ∨ mtu < frSize p ∧ p.df = false ∧ cpOk p.opts = false := by
          cases h3 : cpOk p.opts <;> cases h4 : p.df <;> by_cases h5 : frSize p ≤ mtu <;> simp_all <;> omega
        clear h2
        have a0 := hP.2 0 _ rfl; have a1 := hP.2 1 _ rfl; have a2 := hP.2 2 _ rfl; have a3 := hP.2 3 _ rfl; have a4 := hP.2 4 _ rfl; have a5 := hP.2 5 _ rfl; have a6 := hP.2 6 _ rfl; have a7 := hP.2 7 _ rfl; have a8 := hP.2 8 _ rfl; have a9 := hP.2 9 _ rfl; have a10 := hP.2 10 _ rfl
        refine (callsIn_wide (n := 4)).1 ?_
        refine callsIn_of_wp_marks Try.func11 rfl trivial ?_ rfl
        simp only [Try.ntmps11, List.size_toArray, List.length_cons, List.length_nil, Nat.reduceAdd, Nat.reduceSub, Array.replicate_succ, Array.replicate_zero, List.push_toArray, List.append_toArray, List.nil_append, List.cons_append]
        gi_wp2_with fail
        refine ⟨trivial, ?_⟩
        refine (callsIn_wide.2 (CK.out _)).mono ?_
        rintro e w1 ⟨rfl, hb⟩
        replace hP := hP.below hb; replace hB := hB.trans (hb.mono hB.size)
        clear hb a0 a1 a2 a3 a4 a5 a6 a7 a8 a9 a10
        have a0 := hP.2 0 _ rfl; have a1 := hP.2 1 _ rfl; have a2 := hP.2 2 _ rfl; have a3 := hP.2 3 _ rfl; have a4 := hP.2 4 _ rfl; have a5 := hP.2 5 _ rfl; have a6 := hP.2 6 _ rfl; have a7 := hP.2 7 _ rfl; have a8 := hP.2 8 _ rfl; have a9 := hP.2 9 _ rfl; have a10 := hP.2 10 _ rfl
        gi_wp2_with fail
        refine ⟨trivial, ?_⟩
        refine (callsIn_wide.2 (CM.out _)).mono ?_
        rintro e wz ⟨rfl, hz⟩
        rw [hz]
        clear hz wz
        gi_wp2_with fail
        refine ⟨trivial, ?_⟩
        refine (callsIn_wide.2 (CZ.out _)).mono ?_
        rintro e w2 ⟨rfl, hb⟩
        replace hP := hP.below hb; replace hB := hB.trans (hb.mono hB.size)
        clear hb a0 a1 a2 a3 a4 a5 a6 a7 a8 a9 a10 CK CM CZ
        have a0 := hP.2 0 _ rfl; have a1 := hP.2 1 _ rfl; have a2 := hP.2 2 _ rfl; have a3 := hP.2 3 _ rfl; have a4 := hP.2 4 _ rfl; have a5 := hP.2 5 _ rfl; have a6 := hP.2 6 _ rfl; have a7 := hP.2 7 _ rfl; have a8 := hP.2 8 _ rfl; have a9 := hP.2 9 _ rfl; have a10 := hP.2 10 _ rfl
        rcases hh with hh | hh
        · rcases hh with hfit | ⟨hlong, hdf, hok⟩
          · have hfi : ¬ mtu < frSize p := by omega
            have HE : Hid (frC p mtu = 0 ∧ frL p mtu = frSeq (cpText p.opts) mtu p) := by
              have e : frC p mtu = 0 := by rw [EK.out, if_pos hfit]
              exact ⟨e, by unfold frL; rw [if_pos e]⟩
            clear EK hfit
            gi_wp2_with fail
            refine ⟨trivial, ?_⟩
            refine (callsIn_wide.2 (CC.out _)).mono ?_
            rintro e w3 ⟨rfl, hb⟩
            replace hP := hP.below hb; replace hB := hB.trans (hb.mono hB.size)
            clear hb a0 a1 a2 a3 a4 a5 a6 a7 a8 a9 a10 CC
            have bO := Boxed.new w3 25 (.slice none 0 0)
            have hB4 := hB.alloc hB.size (.cells #[.slice none 0 0] 25)
            replace hP := hP.allocF (.cells #[.slice none 0 0] 25)
            have a0 := hP.2 0 _ rfl; have a1 := hP.2 1 _ rfl; have a2 := hP.2 2 _ rfl; have a3 := hP.2 3 _ rfl; have a4 := hP.2 4 _ rfl; have a5 := hP.2 5 _ rfl; have a6 := hP.2 6 _ rfl; have a7 := hP.2 7 _ rfl; have a8 := hP.2 8 _ rfl; have a9 := hP.2 9 _ rfl; have a10 := hP.2 10 _ rfl
            gi_wp2_with fail
            refine ⟨trivial, ?_⟩
            refine (callsIn_wide.2 (CP.out _)).mono ?_
            rintro e w5 ⟨rfl, hw5⟩
            obtain ⟨hs5, hb5, hO5, hP5, hC5, hM5⟩ := fr_boxes hB4 bO p (cpText p.opts) mtu w5 hw5
            have hwO := hB.size
            clear hw5 hP hB hB4 bO a0 a1 a2 a3 a4 a5 a6 a7 a8 a9 a10 CP
            generalize hOO : w3.heap.size = O at *
            gi_wp2_with fail
            have HN : (frSeq (cpText p.opts) mtu p).length ≤ 65536 := frSeq_len _ _ _ hdz
            have hc40 := cpText_40 ho40
            refine wpIn_range_left rfl (by omega) (gf := 57) (lb := #[.pointer (some ⟨O + 1, 0, none⟩), .pointer (some ⟨O + 3, 0, none⟩), .pointer (some ⟨O + 2, 0, none⟩)]) rfl trivial (enters_of Try.func57 (by kernel_rfl) rfl) ipEnc (KpF (O + 1) (O + 6)) (fun xs => xs = frSeq (cpText p.opts) mtu p) (frSeq (cpText p.opts) mtu p).length
              ?hseq (fun h k => KpF.trans h k) ?hKl (fun _ => rfl)
              (fun pre W => (∃ v, Boxed W O 25 v ∧ ownV W (O + 7) 28 11 v pre.length (iqF pre)) ∧ Below w.heap.size w W) ?hI ⟨⟨_, hO5, ownV.nil _ _ _ _⟩, hb5⟩
              (fun pre x a' W => ∃ X, O + 6 ≤ X ∧ a' = { tmps := #[(.agg #[.int .i64 p.tos, .int .i64 p.id, .bool p.df, .bool p.mf, .int .i64 p.off, .int .i64 p.ttl, .int .i64 p.pro, .int .i64 p.src, .int .i64 p.dst, .string p.opts, .string p.data]), .int .i64 mtu, .pointer (some ⟨w.heap.size, 0, none⟩), undef, .slice none 0 0, .int .i64 0, .bool false, .string (cpText p.opts), .bool (cpOk p.opts), .pointer (some ⟨O, 0, none⟩), .pointer (some ⟨X, 0, none⟩), (.agg #[.int .i64 p.tos, .int .i64 p.id, .bool p.df, .bool p.mf, .int .i64 p.off, .int .i64 p.ttl, .int .i64 p.pro, .int .i64 p.src, .int .i64 p.dst, .string p.opts, .string p.data]), .bool true, .bool false, .bool false, .int .i64 mtu, .bool true, .bool false, .bool false, (.agg #[.int .i64 p.tos, .int .i64 p.id, .bool p.df, .bool p.mf, .int .i64 p.off, .int .i64 p.ttl, .int .i64 p.pro, .int .i64 p.src, .int .i64 p.dst, .string p.opts, .string p.data]), .int .i64 (frSize p), .int .i64 mtu, .bool false, .bool false, .bool false, undef, undef, .bool false, .tuple #[.string (cpText p.opts), .bool (cpOk p.opts)], .pointer (some ⟨w.heap.size, 9, none⟩), .string p.opts, .tuple #[.string (cpText p.opts), .bool (cpOk p.opts)], .string (cpText p.opts), .bool (cpOk p.opts), .bool false, .bool false, undef, undef, .bool false, (.agg #[.int .i64 p.tos, .int .i64 p.id, .bool p.df, .bool p.mf, .int .i64 p.off, .int .i64 p.ttl, .int .i64 p.pro, .int .i64 p.src, .int .i64 p.dst, .string p.opts, .string p.data]), .string (cpText p.opts), .int .i64 mtu, .func (.func 57) #[] #[.pointer (some ⟨O + 1, 0, none⟩), .pointer (some ⟨O + 3, 0, none⟩), .pointer (some ⟨O + 2, 0, none⟩)], .agg (ipL x), undef, undef, undef, undef, undef], defers := [] } ∧ Bx W X (ipL x).toList ∧ O + 7 ≤ W.heap.size ∧ (∃ v, Boxed W O 25 v ∧ ownV W (O + 7) 28 11 v pre.length (iqF pre)) ∧ Below w.heap.size w W) ?hAx ?hassign ?hbody ?hdone
            case hseq =>
              intro J W hW hs hJ hY h0
              have hlt : O + 1 < w5.heap.size := by omega
              exact p_iter 3 (by omega) (w5.heap.size + 1) (O + 1) (w5.heap.size + 2) p (cpText p.opts) mtu hm0 hm1 hc40 ho40 hof0 hof1 hdz J hJ (by rw [hs5] at hY ⊢; exact hY) W hs (hP5.belF hW (by omega)) ((hW.cell (p := ⟨O + 2, 0, none⟩) (by rw [hs5]; show O + 2 < O + 4; omega)).trans hC5) ((hW.cell (p := ⟨O + 3, 0, none⟩) (by rw [hs5]; show O + 3 < O + 4; omega)).trans hM5) h0
            case hKl =>
              intro W o
              exact ⟨by simp [World.putObj], fun k hk _ => World.putObj_heap_other (by omega)⟩
            case hI =>
              rintro s A B row ⟨⟨v, hv, ho⟩, hb⟩ hg hr
              exact ⟨⟨v, hv.kept hg (fun e => by have := hr _ e.symm; omega), ho.keptF hg (fun b h1 e => by have := hr b e; omega)⟩, hb.grown hg hb.size (fun j e => by have := hr j e; have := hb5.size; omega)⟩
            case hAx =>
              rintro pre x a' A B ⟨X, hX, rfl, hx, hs, ⟨v, hv, ho⟩, hb⟩ hg
              exact ⟨X, hX, rfl, hx.keptF hg (by intro e; cases e; omega), Nat.le_trans hs hg.size, ⟨v, hv.kept hg (fun e => by cases e; omega), ho.keptF hg (fun b h1 e => by cases e; omega)⟩, hb.grown hg hb.size (fun j e => by cases e; have := hb5.size; omega)⟩
            case hassign =>
              rintro pre x W K ⟨⟨v, hv, ho⟩, hb⟩ hlt hK
              have hal := (Below.refl W.heap.size W).alloc (Nat.le_refl _) (.cells (ipL x) 28)
              have hXX := Bx.new W (ipL x) 28
              have hgw := World.grownBy_alloc W (.cells (ipL x) 28) none
              have hk2 := fun a' hax => hK a' (W.alloc (.cells (ipL x) 28)) hax (hal.block _ (by omega)) (hal.block _ (by omega)) ⟨hal.size, fun k _ hl => hal.block k hl⟩
              have HAX : Hid (∀ a', _) := fun a' ha => hk2 a' ⟨W.heap.size, by omega, ha, hXX, by simp; omega, ⟨v, hv.kept hgw (by simp), ho.keptF hgw (by simp)⟩, hb.trans (hal.mono hb.size)⟩
              clear hk2
              simp only [ipEnc, ipL]
              gi_wp2
              exact HAX.out _ rfl
            case hbody =>
              rintro pre x a' W ⟨X, hX, rfl, hx, hs, ⟨v, hv, ho⟩, hb⟩ hlt
              obtain ⟨T', c', rfl⟩ := ho.form
              have hc := hv.cell
              obtain ⟨i0, hi0, hz0, hz1, hz2⟩ := info_parts Try.infIp.inf
              have x0 := hx.2 0 _ rfl; have x1 := hx.2 1 _ rfl; have x2 := hx.2 2 _ rfl; have x3 := hx.2 3 _ rfl; have x4 := hx.2 4 _ rfl; have x5 := hx.2 5 _ rfl; have x6 := hx.2 6 _ rfl; have x7 := hx.2 7 _ rfl; have x8 := hx.2 8 _ rfl; have x9 := hx.2 9 _ rfl; have x10 := hx.2 10 _ rfl
              have hone := oneIp x
              have hnew := fun (j : Nat) (u : Value) (hj : (ipL x).toList[j]? = some u) => (Bx.new W (ipL x) 28).2 j u hj
              have hat := ho.alloc (.cells (ipL x) 28)
              simp only [ipL] at hone hnew hat
              have hnew2 := fun (j : Nat) (u : Value) (hj : [Value.int .i64 x.tos, .int .i64 x.id, .bool x.df, .bool x.mf, .int .i64 x.off, .int .i64 x.ttl, .int .i64 x.pro, .int .i64 x.src, .int .i64 x.dst, .string x.opts, .string x.data][j]? = some u) => (show ∀ (U : World) (b : Nat), U.cell? ⟨b, j, none⟩ = some u → U.cell? ((⟨b, 0, none⟩ : Addr).add j) = some u from fun U b h => by rw [plain_add, Nat.zero_add]; exact h) _ _ (hnew j u hj)
              gi_wp2_with (gi_at_builtin; refine wpListIn_append_own _ rfl _ _ 25 rfl (O + 7) 28 i0 _ 11 96 Try.underlying25 hi0 hz0 hz1 hz2 rfl (by decide) (.slice T' pre.length c') pre.length (iqF pre) rfl hat ⟨W.heap.size, 0, none⟩ 1 1 [.int .i64 x.tos, .int .i64 x.id, .bool x.df, .bool x.mf, .int .i64 x.off, .int .i64 x.ttl, .int .i64 x.pro, .int .i64 x.src, .int .i64 x.dst, .string x.opts, .string x.data] rfl rfl hnew2 hone (by unfold maxLen; omega) (by omega) (by simp; omega) ?_; intro v' w1 hown' hgrow _; obtain ⟨g', cap', rfl⟩ := ownsRow_succ hown'; obtain ⟨hv1, hv2, hr2, hk2, hb2⟩ := Boxed.appendedF hv ho hs hown' hgrow; have hc1 := hv1.cell; have hf1 := hv1.frozen)
              refine ⟨hk2 _ (by omega) (by omega), ⟨hb2.size, fun k hk _ => hk2 k (by omega) (by omega)⟩, ⟨_, hv2, by rw [iqF_app, iqF_one]; exact hr2⟩, hb.trans (hb2.mono hwO)⟩
            case hdone =>
              rintro xs W rfl ⟨⟨v, hv, ho⟩, hb⟩ hK
              obtain ⟨T', c', rfl⟩ := ho.form
              have hc := hv.cell
              gi_wp2
              refine ⟨by simp, .inl ⟨_, _, rfl, run_takeDeferred hK, ?_⟩⟩
              have h1 := ownsRow_putObj ho (.deferred none) hK rfl
              refine ⟨.tuple #[.slice T' (frSeq (cpText p.opts) mtu p).length c', .int .i64 0], ?_, _, by rw [HE.out.1], by rw [HE.out.2]; exact ownV.mono h1 (by have := hb5.size; omega), hb.trans (belowK_b (w := w) (Nat.le_refl _) _ _ _ _ hb5.size hK rfl rfl)⟩
              simp [results, Try.f11, go_sem]
          · have hfi : mtu < frSize p := hlong
            have HE : Hid (frC p mtu = 0 ∧ frL p mtu = frSeq (cpText p.opts) mtu p) := by
              have e : frC p mtu = 0 := by rw [EK.out, if_neg (by omega), hdf, hok]; rfl
              exact ⟨e, by unfold frL; rw [if_pos e]⟩
            clear EK hlong
            have hpd : Hid ((⟨p.tos, p.id, false, p.mf, p.off, p.ttl, p.pro, p.src, p.dst, p.opts, p.data⟩ : IpV) = p) := by show _ = _; rw [← hdf]
            rw [hdf] at CP a2 hP
            rw [hok] at CC
            clear hdf hok
            gi_wp2_with fail
            refine ⟨trivial, ?_⟩
            refine (callsIn_wide.2 (CC.out _)).mono ?_
            rintro e w3 ⟨rfl, hb⟩
            replace hP := hP.below hb; replace hB := hB.trans (hb.mono hB.size)
            clear hb a0 a1 a2 a3 a4 a5 a6 a7 a8 a9 a10 CC
            have bO := Boxed.new w3 25 (.slice none 0 0)
            have hB4 := hB.alloc hB.size (.cells #[.slice none 0 0] 25)
            replace hP := hP.allocF (.cells #[.slice none 0 0] 25)
            have a0 := hP.2 0 _ rfl; have a1 := hP.2 1 _ rfl; have a2 := hP.2 2 _ rfl; have a3 := hP.2 3 _ rfl; have a4 := hP.2 4 _ rfl; have a5 := hP.2 5 _ rfl; have a6 := hP.2 6 _ rfl; have a7 := hP.2 7 _ rfl; have a8 := hP.2 8 _ rfl; have a9 := hP.2 9 _ rfl; have a10 := hP.2 10 _ rfl
            gi_wp2_with fail
            refine ⟨trivial, ?_⟩
            refine (callsIn_wide.2 (CP.out _)).mono ?_
            rintro e w5 ⟨rfl, hw5⟩
            obtain ⟨hs5, hb5, hO5, hP5, hC5, hM5⟩ := fr_boxes hB4 bO ⟨p.tos, p.id, false, p.mf, p.off, p.ttl, p.pro, p.src, p.dst, p.opts, p.data⟩ (cpText p.opts) mtu w5 hw5
            have hwO := hB.size
            clear hw5 hP hB hB4 bO a0 a1 a2 a3 a4 a5 a6 a7 a8 a9 a10 CP
            rw [hpd.out] at hP5
            generalize hOO : w3.heap.size = O at *
            gi_wp2_with fail
            have HN : (frSeq (cpText p.opts) mtu p).length ≤ 65536 := frSeq_len _ _ _ hdz
            have hc40 := cpText_40 ho40
            refine wpIn_range_left rfl (by omega) (gf := 57) (lb := #[.pointer (some ⟨O + 1, 0, none⟩), .pointer (some ⟨O + 3, 0, none⟩), .pointer (some ⟨O + 2, 0, none⟩)]) rfl trivial (enters_of Try.func57 (by kernel_rfl) rfl) ipEnc (KpF (O + 1) (O + 6)) (fun xs => xs = frSeq (cpText p.opts) mtu p) (frSeq (cpText p.opts) mtu p).length
              ?hseq (fun h k => KpF.trans h k) ?hKl (fun _ => rfl)
              (fun pre W => (∃ v, Boxed W O 25 v ∧ ownV W (O + 7) 28 11 v pre.length (iqF pre)) ∧ Below w.heap.size w W) ?hI ⟨⟨_, hO5, ownV.nil _ _ _ _⟩, hb5⟩
              (fun pre x a' W => ∃ X, O + 6 ≤ X ∧ a' = { tmps := #[(.agg #[.int .i64 p.tos, .int .i64 p.id, .bool p.df, .bool p.mf, .int .i64 p.off, .int .i64 p.ttl, .int .i64 p.pro, .int .i64 p.src, .int .i64 p.dst, .string p.opts, .string p.data]), .int .i64 mtu, .pointer (some ⟨w.heap.size, 0, none⟩), undef, .slice none 0 0, .int .i64 0, .bool true, .string (cpText p.opts), .bool true, .pointer (some ⟨O, 0, none⟩), .pointer (some ⟨X, 0, none⟩), (.agg #[.int .i64 p.tos, .int .i64 p.id, .bool p.df, .bool p.mf, .int .i64 p.off, .int .i64 p.ttl, .int .i64 p.pro, .int .i64 p.src, .int .i64 p.dst, .string p.opts, .string p.data]), .bool true, .bool false, .bool false, .int .i64 mtu, .bool true, .bool false, .bool false, (.agg #[.int .i64 p.tos, .int .i64 p.id, .bool p.df, .bool p.mf, .int .i64 p.off, .int .i64 p.ttl, .int .i64 p.pro, .int .i64 p.src, .int .i64 p.dst, .string p.opts, .string p.data]), .int .i64 (frSize p), .int .i64 mtu, .bool true, .bool true, .bool true, .pointer (some ⟨w.heap.size, 2, none⟩), .bool false, .bool false, .tuple #[.string (cpText p.opts), .bool true], .pointer (some ⟨w.heap.size, 9, none⟩), .string p.opts, .tuple #[.string (cpText p.opts), .bool true], .string (cpText p.opts), .bool true, .bool true, .bool true, .bool true, .bool false, .bool false, (.agg #[.int .i64 p.tos, .int .i64 p.id, .bool false, .bool p.mf, .int .i64 p.off, .int .i64 p.ttl, .int .i64 p.pro, .int .i64 p.src, .int .i64 p.dst, .string p.opts, .string p.data]), .string (cpText p.opts), .int .i64 mtu, .func (.func 57) #[] #[.pointer (some ⟨O + 1, 0, none⟩), .pointer (some ⟨O + 3, 0, none⟩), .pointer (some ⟨O + 2, 0, none⟩)], .agg (ipL x), undef, undef, undef, undef, undef], defers := [] } ∧ Bx W X (ipL x).toList ∧ O + 7 ≤ W.heap.size ∧ (∃ v, Boxed W O 25 v ∧ ownV W (O + 7) 28 11 v pre.length (iqF pre)) ∧ Below w.heap.size w W) ?hAx ?hassign ?hbody ?hdone
            case hseq =>
              intro J W hW hs hJ hY h0
              have hlt : O + 1 < w5.heap.size := by omega
              exact p_iter 3 (by omega) (w5.heap.size + 1) (O + 1) (w5.heap.size + 2) p (cpText p.opts) mtu hm0 hm1 hc40 ho40 hof0 hof1 hdz J hJ (by rw [hs5] at hY ⊢; exact hY) W hs (hP5.belF hW (by omega)) ((hW.cell (p := ⟨O + 2, 0, none⟩) (by rw [hs5]; show O + 2 < O + 4; omega)).trans hC5) ((hW.cell (p := ⟨O + 3, 0, none⟩) (by rw [hs5]; show O + 3 < O + 4; omega)).trans hM5) h0
            case hKl =>
              intro W o
              exact ⟨by simp [World.putObj], fun k hk _ => World.putObj_heap_other (by omega)⟩
            case hI =>
              rintro s A B row ⟨⟨v, hv, ho⟩, hb⟩ hg hr
              exact ⟨⟨v, hv.kept hg (fun e => by have := hr _ e.symm; omega), ho.keptF hg (fun b h1 e => by have := hr b e; omega)⟩, hb.grown hg hb.size (fun j e => by have := hr j e; have := hb5.size; omega)⟩
            case hAx =>
              rintro pre x a' A B ⟨X, hX, rfl, hx, hs, ⟨v, hv, ho⟩, hb⟩ hg
              exact ⟨X, hX, rfl, hx.keptF hg (by intro e; cases e; omega), Nat.le_trans hs hg.size, ⟨v, hv.kept hg (fun e => by cases e; omega), ho.keptF hg (fun b h1 e => by cases e; omega)⟩, hb.grown hg hb.size (fun j e => by cases e; have := hb5.size; omega)⟩
            case hassign =>
              rintro pre x W K ⟨⟨v, hv, ho⟩, hb⟩ hlt hK
              have hal := (Below.refl W.heap.size W).alloc (Nat.le_refl _) (.cells (ipL x) 28)
              have hXX := Bx.new W (ipL x) 28
              have hgw := World.grownBy_alloc W (.cells (ipL x) 28) none
              have hk2 := fun a' hax => hK a' (W.alloc (.cells (ipL x) 28)) hax (hal.block _ (by omega)) (hal.block _ (by omega)) ⟨hal.size, fun k _ hl => hal.block k hl⟩
              have HAX : Hid (∀ a', _) := fun a' ha => hk2 a' ⟨W.heap.size, by omega, ha, hXX, by simp; omega, ⟨v, hv.kept hgw (by simp), ho.keptF hgw (by simp)⟩, hb.trans (hal.mono hb.size)⟩
              clear hk2
              simp only [ipEnc, ipL]
              gi_wp2
              exact HAX.out _ rfl
            case hbody =>
              rintro pre x a' W ⟨X, hX, rfl, hx, hs, ⟨v, hv, ho⟩, hb⟩ hlt
              obtain ⟨T', c', rfl⟩ := ho.form
              have hc := hv.cell
              obtain ⟨i0, hi0, hz0, hz1, hz2⟩ := info_parts Try.infIp.inf
              have x0 := hx.2 0 _ rfl; have x1 := hx.2 1 _ rfl; have x2 := hx.2 2 _ rfl; have x3 := hx.2 3 _ rfl; have x4 := hx.2 4 _ rfl; have x5 := hx.2 5 _ rfl; have x6 := hx.2 6 _ rfl; have x7 := hx.2 7 _ rfl; have x8 := hx.2 8 _ rfl; have x9 := hx.2 9 _ rfl; have x10 := hx.2 10 _ rfl
              have hone := oneIp x
              have hnew := fun (j : Nat) (u : Value) (hj : (ipL x).toList[j]? = some u) => (Bx.new W (ipL x) 28).2 j u hj
              have hat := ho.alloc (.cells (ipL x) 28)
              simp only [ipL] at hone hnew hat
              have hnew2 := fun (j : Nat) (u : Value) (hj : [Value.int .i64 x.tos, .int .i64 x.id, .bool x.df, .bool x.mf, .int .i64 x.off, .int .i64 x.ttl, .int .i64 x.pro, .int .i64 x.src, .int .i64 x.dst, .string x.opts, .string x.data][j]? = some u) => (show ∀ (U : World) (b : Nat), U.cell? ⟨b, j, none⟩ = some u → U.cell? ((⟨b, 0, none⟩ : Addr).add j) = some u from fun U b h => by rw [plain_add, Nat.zero_add]; exact h) _ _ (hnew j u hj)
              gi_wp2_with (gi_at_builtin; refine wpListIn_append_own _ rfl _ _ 25 rfl (O + 7) 28 i0 _ 11 96 Try.underlying25 hi0 hz0 hz1 hz2 rfl (by decide) (.slice T' pre.length c') pre.length (iqF pre) rfl hat ⟨W.heap.size, 0, none⟩ 1 1 [.int .i64 x.tos, .int .i64 x.id, .bool x.df, .bool x.mf, .int .i64 x.off, .int .i64 x.ttl, .int .i64 x.pro, .int .i64 x.src, .int .i64 x.dst, .string x.opts, .string x.data] rfl rfl hnew2 hone (by unfold maxLen; omega) (by omega) (by simp; omega) ?_; intro v' w1 hown' hgrow _; obtain ⟨g', cap', rfl⟩ := ownsRow_succ hown'; obtain ⟨hv1, hv2, hr2, hk2, hb2⟩ := Boxed.appendedF hv ho hs hown' hgrow; have hc1 := hv1.cell; have hf1 := hv1.frozen)
              refine ⟨hk2 _ (by omega) (by omega), ⟨hb2.size, fun k hk _ => hk2 k (by omega) (by omega)⟩, ⟨_, hv2, by rw [iqF_app, iqF_one]; exact hr2⟩, hb.trans (hb2.mono hwO)⟩
            case hdone =>
              rintro xs W rfl ⟨⟨v, hv, ho⟩, hb⟩ hK
              obtain ⟨T', c', rfl⟩ := ho.form
              have hc := hv.cell
              gi_wp2
              refine ⟨by simp, .inl ⟨_, _, rfl, run_takeDeferred hK, ?_⟩⟩
              have h1 := ownsRow_putObj ho (.deferred none) hK rfl
              refine ⟨.tuple #[.slice T' (frSeq (cpText p.opts) mtu p).length c', .int .i64 0], ?_, _, by rw [HE.out.1], by rw [HE.out.2]; exact ownV.mono h1 (by have := hb5.size; omega), hb.trans (belowK_b (w := w) (Nat.le_refl _) _ _ _ _ hb5.size hK rfl rfl)⟩
              simp [results, Try.f11, go_sem]
        · obtain ⟨hlong, hdf, hok⟩ := hh
          have hfi : mtu < frSize p := hlong
          have HE : Hid (frC p mtu = 3 ∧ frL p mtu = []) := by
            have e : frC p mtu = 3 := by rw [EK.out, if_neg (by omega), hdf, hok]; rfl
            exact ⟨e, by unfold frL; rw [e]; rfl⟩
          rw [hdf] at a2
          rw [hok] at CC
          clear EK hlong hdf hok CP
          gi_wp2_with fail
          refine ⟨trivial, ?_⟩
          refine (callsIn_wide.2 (CC.out _)).mono ?_
          rintro e w3 ⟨rfl, hb⟩
          replace hB := hB.trans (hb.mono hB.size)
          clear hb a0 a1 a2 a3 a4 a5 a6 a7 a8 a9 a10 CC hP
          gi_wp2
          refine ⟨.tuple #[.slice none 0 0, .int .i64 3], ?_, _, by rw [HE.out.1], by rw [HE.out.2]; exact ownV.nil _ _ _ _, hB⟩
          simp [results, Try.results11, go_sem]

end Go.Proofs.Ytgfpoohjbgdcpaa
