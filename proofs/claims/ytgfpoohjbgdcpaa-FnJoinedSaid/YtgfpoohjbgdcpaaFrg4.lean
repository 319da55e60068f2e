/-
  The pieces of a datagram: the program's iterator.
-/
import Derived.Test.YtgfpoohjbgdcpaaFrg3
import Derived.Test.YtgfpoohjbgdcpaaCop2
import Derived.Sort.BigQuietIn
namespace Go.Proofs.Ytgfpoohjbgdcpaa
open Go.RowKit Go.PlainAid Go.Shelf Go.Sort
attribute [local go_sem] Oper.semAt_some
def ipEnc (q : IpV) : Array Value := #[.agg (ipL q)]
/-- what a round keeps: what the iterator reads and its own variable -/
def KpF (c0 G : Nat) (A B : World) : Prop := A.heap.size ≤ B.heap.size ∧ ∀ k, (c0 ≤ k ∧ k ≤ c0 + 2 ∨ k = G) → k < A.heap.size → B.heap[k]? = A.heap[k]?
theorem KpF.cell {c0 G : Nat} {A B : World} (h : KpF c0 G A B) {k j : Nat} (hk : c0 ≤ k ∧ k ≤ c0 + 2 ∨ k = G) (hl : k < A.heap.size) : B.cell? ⟨k, j, none⟩ = A.cell? ⟨k, j, none⟩ := World.cell?_of_block (w := A) (a := ⟨k, j, none⟩) (h.2 k hk hl)
theorem KpF.bx {c0 G : Nat} {A B : World} (h : KpF c0 G A B) {k : Nat} {vs : List Value} (hk : c0 ≤ k ∧ k ≤ c0 + 2 ∨ k = G) (hx : Bx A k vs) : Bx B k vs := ⟨Nat.lt_of_lt_of_le hx.1 h.1, fun i v hv => (h.cell hk hx.1).trans (hx.2 i v hv)⟩
theorem KpF.fx {c0 G : Nat} {A B : World} (h : KpF c0 G A B) {k : Nat} (hk : c0 ≤ k ∧ k ≤ c0 + 2 ∨ k = G) (hx : Fx A k) : Fx B k := ⟨Nat.lt_of_lt_of_le hx.1 h.1, fun j => (World.frozen?_of_block (w := A) (a := ⟨k, j, none⟩) (h.2 k hk hx.1)).trans (hx.2 j)⟩
theorem grown_setF (W : World) (b j : Nat) (v : Value) : W.grownBy (W.setCell ⟨b, j, none⟩ v) (some b) :=
  ⟨rfl, rfl, rfl, by simp, fun k _ hk => Below.heap_setCell _ _ _ k (fun e => hk (by rw [e]))⟩
def dataLeft (W : World) (b : Nat) : Nat := match W.cell? ⟨b, 10, none⟩ with
  | some (.string s) => s.size
  | _ => 0
theorem dataLeft_at {W : World} {b : Nat} {s : ByteArray} (h : W.cell? ⟨b, 10, none⟩ = some (.string s)) : dataLeft W b = s.size := by unfold dataLeft; rw [h]
theorem below_grown {A B : World} (h : Below A.heap.size A B) : A.grownBy B none := ⟨h.os, h.tape, h.output, h.size, fun k hk _ => h.block k hk⟩
/-- one operation of a drawn region, under the fence that lets everything in -/
theorem wpQuietIn_wide {n : Nat} {P : Program} {ops : Array Oper} {C : World → Prop} {Q : Act → Prop} {o : Oper} {rest : List Oper} {a : Act} (hw : Region.wanted o (yielded ops a.tmps) = true)
    (h : ∀ K : Act → Prop, (∀ a', wpQuietIn Fence.wide n P ops C Q rest a' → K a') → o.quietIn Fence.wide n P a C K) : wpQuietIn Fence.wide n P ops C Q (o :: rest) a :=
  ⟨fun _ _ _ _ => trivial, by rw [if_pos hw]; exact h _ (fun _ h => h)⟩
set_option maxRecDepth 100000 in
set_option maxHeartbeats 6400000 in
theorem p_iter (n : Nat) (hn : 1 ≤ n) (l c0 G : Nat) (p : IpV) (c : ByteArray) (mtu : Int) (hm0 : 68 ≤ mtu) (hm1 : mtu ≤ 65535) (hc40 : c.size ≤ 40) (ho40 : p.opts.size ≤ 40) (hof0 : 0 ≤ p.off) (hof1 : p.off ≤ 8191) (hdz : p.data.size ≤ 65535) (J : List IpV → World → Prop)
    (hJ : ∀ s A B row, J s A → A.grownBy B row → (∀ r, row = some r → r = G) → J s B)
    (hY : ∀ pre x W, J pre W → pre.length < (frSeq c mtu p).length → YieldAt Fence.wide (n - 1) Try.prog l (ipEnc x) W fun e W' => e = .returned (.bool true) ∧ J (pre ++ [x]) W' ∧ KpF c0 G W W')
    (W : World) (hG : W.heap.size = G) (hP : Bx W c0 (ipL p).toList) (hC : W.cell? ⟨c0 + 1, 0, none⟩ = some (.string c)) (hM : W.cell? ⟨c0 + 2, 0, none⟩ = some (.int .i64 mtu)) (h0 : J [] W) :
    CallsIn Fence.wide n Try.prog 57 #[.func (.yield l) #[] #[], .pointer (some ⟨c0, 0, none⟩), .pointer (some ⟨c0 + 2, 0, none⟩), .pointer (some ⟨c0 + 1, 0, none⟩)] W fun e W' => (∃ v, e = .returned v) ∧ ∃ xs, xs = frSeq c mtu p ∧ J xs W' := by
  subst hG
  have CZ : Hid (∀ (q : IpV) (u : World), q.opts.size ≤ 40 → q.data.size ≤ 65535 → Calls Try.prog 31 #[.agg (ipL q)] u fun e w' => e = .returned (.int .i64 (frSize q)) ∧ Below u.heap.size u w') := fun q u h1 h2 => i_ipSize q u (by omega) (by omega)
  have CH : Hid (∀ (q : IpV) (u : World), q.opts.size ≤ 40 → Calls Try.prog 55 #[.agg (ipL q)] u fun e w' => e = .returned (.int .i64 (20 + (q.opts.size : Int))) ∧ Below u.heap.size u w') := fun q u h1 => (i_headSize q u (by omega)).mono fun _ _ ⟨he, hw⟩ => ⟨he, hw ▸ (Below.refl _ _).alloc (Nat.le_refl _) _⟩
  have CO : Hid (∀ (q : IpV) (u : World), q.opts.size ≤ 40 → q.data.size ≤ 65535 → Calls Try.prog 58 #[.agg (ipL q)] u fun e w' => e = .returned (.agg (ipL q)) ∧ Below u.heap.size u w') := fun q u h1 h2 => i_ownIp q u (by omega) (by omega)
  have hQ := Bx.new W (ipL p) 28
  have hQF := Fx.new W (ipL p) 28
  have hal := (Below.refl W.heap.size W).alloc (Nat.le_refl _) (.cells (ipL p) 28)
  have hc1 := lt_of_cell hC
  have hc2 := lt_of_cell hM
  have hC1 := (hal.cell (p := ⟨c0 + 1, 0, none⟩) hc1).trans hC
  have hM1 := (hal.cell (p := ⟨c0 + 2, 0, none⟩) hc2).trans hM
  have hJ1 : J [] (W.alloc (.cells (ipL p) 28)) := hJ _ _ _ none h0 (below_grown hal) (fun r e => by cases e)
  have a0 := hP.2 0 _ rfl; have a1 := hP.2 1 _ rfl; have a2 := hP.2 2 _ rfl; have a3 := hP.2 3 _ rfl; have a4 := hP.2 4 _ rfl; have a5 := hP.2 5 _ rfl; have a6 := hP.2 6 _ rfl; have a7 := hP.2 7 _ rfl; have a8 := hP.2 8 _ rfl; have a9 := hP.2 9 _ rfl; have a10 := hP.2 10 _ rfl
  simp only [ipL] at hQ hQF hC1 hM1 hJ1
  refine callsIn_of_wp Try.func57 rfl trivial ?_ rfl
  simp only [Try.ntmps57, List.size_toArray, List.length_cons, List.length_nil, Nat.reduceAdd, Nat.reduceSub, Array.replicate_succ, Array.replicate_zero, List.push_toArray, List.append_toArray, List.nil_append, List.cons_append]
  gi_wp2_with fail
  gi_loopw [] (fun wr => ∃ (pre : List IpV) (q : IpV), frSeq c mtu p = pre ++ frSeq c mtu q ∧ q.opts.size ≤ 40 ∧ 0 ≤ q.off ∧ q.off * 8 + (q.data.size : Int) ≤ 131063 ∧ q.data.size ≤ 65535 ∧ J pre wr ∧ Bx wr W.heap.size (ipL q).toList ∧ Fx wr W.heap.size ∧ wr.cell? ⟨c0 + 1, 0, none⟩ = some (.string c) ∧ wr.cell? ⟨c0 + 2, 0, none⟩ = some (.int .i64 mtu)) (fun wr => dataLeft wr W.heap.size)
  case atStart => exact ⟨[], p, rfl, ho40, hof0, by omega, hdz, hJ1, hQ, hQF, hC1, hM1⟩
  case round =>
    clear hQ hQF hal hC1 hM1 hJ1 hP hC hM h0 a0 a1 a2 a3 a4 a5 a6 a7 a8 a9 a10
    obtain ⟨pre, q, hS, hqo, hf0, hf1, hqd, hJr, hQ, hQF, hC, hM⟩ := hrel
    have CZq : Hid (∀ u : World, Calls Try.prog 31 #[.agg (ipL q)] u fun e w' => e = .returned (.int .i64 (frSize q)) ∧ Below u.heap.size u w') := fun u => CZ.out q u hqo hqd
    have CHq : Hid (∀ u : World, Calls Try.prog 55 #[.agg (ipL q)] u fun e w' => e = .returned (.int .i64 (20 + (q.opts.size : Int))) ∧ Below u.heap.size u w') := fun u => CH.out q u hqo
    have COq : Hid (∀ u : World, Calls Try.prog 58 #[.agg (ipL q)] u fun e w' => e = .returned (.agg (ipL q)) ∧ Below u.heap.size u w') := fun u => CO.out q u hqo hqd
    simp only [ipL] at CZq CHq COq hQ
    have HS : Hid (frSeq c mtu p = pre ++ frSeq c mtu q) := hS
    have HD : Hid (dataLeft wr W.heap.size = q.data.size) := dataLeft_at (hQ.2 10 _ rfl)
    clear hS CZ CH
    gi_wp2_with fail
    have hne := BW.some wr
    have a0 := fun u : BW wr => (hQ.ofBW u).2 0 _ rfl; have a1 := fun u : BW wr => (hQ.ofBW u).2 1 _ rfl; have a2 := fun u : BW wr => (hQ.ofBW u).2 2 _ rfl; have a3 := fun u : BW wr => (hQ.ofBW u).2 3 _ rfl; have a4 := fun u : BW wr => (hQ.ofBW u).2 4 _ rfl; have a5 := fun u : BW wr => (hQ.ofBW u).2 5 _ rfl; have a6 := fun u : BW wr => (hQ.ofBW u).2 6 _ rfl; have a7 := fun u : BW wr => (hQ.ofBW u).2 7 _ rfl; have a8 := fun u : BW wr => (hQ.ofBW u).2 8 _ rfl; have a9 := fun u : BW wr => (hQ.ofBW u).2 9 _ rfl; have a10 := fun u : BW wr => (hQ.ofBW u).2 10 _ rfl
    have m0 := fun u : BW wr => (u.le.cell (p := ⟨c0 + 2, 0, none⟩) (lt_of_cell hM)).trans hM
    refine wpIn_region_below (F := Fence.wide) rfl (by kernel_rfl) (by kernel_rfl) ?_
    repeat (gi_big_quiet_step (fail))
    refine wpQuietIn_wide rfl fun K hK => ?_
    gi_big_quiet_op
    apply Exists.intro
    refine ⟨fun _ => ?_, ?_⟩
    · exact callsIn_wide.2 (Calls.into (CZq.out _))
    refine hK _ ?_
    clear hK K
    repeat (gi_big_quiet_step (fail))
    refine wpQuietIn_nil ?_
    intro _ hw'
    obtain ⟨u1, hw''⟩ := hw'
    subst hw''
    clear a0 a1 a2 a3 a4 a5 a6 a7 a8 a9 a10 m0 hne
    replace hJr := hJ _ _ _ none hJr (below_grown u1.le) (fun r e => by cases e)
    replace hC := (u1.le.cell (p := ⟨c0 + 1, 0, none⟩) (lt_of_cell hC)).trans hC
    replace hM := (u1.le.cell (p := ⟨c0 + 2, 0, none⟩) (lt_of_cell hM)).trans hM
    replace hQ := hQ.ofBW u1
    replace hQF := hQF.below u1.le
    by_cases hfit : frSize q ≤ mtu
    · have hfi : ¬ mtu < frSize q := by omega
      have hE : frSeq c mtu q = [q] := frSeq_end (by omega)
      have HL : Hid (frSeq c mtu p = pre ++ [q]) := by show _ = _; rw [HS.out, hE]
      have hlen : pre.length < (frSeq c mtu p).length := by rw [HL.out]; simp
      have a0 := hQ.2 0 _ rfl; have a1 := hQ.2 1 _ rfl; have a2 := hQ.2 2 _ rfl; have a3 := hQ.2 3 _ rfl; have a4 := hQ.2 4 _ rfl; have a5 := hQ.2 5 _ rfl; have a6 := hQ.2 6 _ rfl; have a7 := hQ.2 7 _ rfl; have a8 := hQ.2 8 _ rfl; have a9 := hQ.2 9 _ rfl; have a10 := hQ.2 10 _ rfl
      clear HS hE CHq CO
      gi_wp2_with (refine ⟨trivial, ?_⟩; gi_at_call 58; refine (callsIn_wide.2 (COq.out _)).mono ?_; rintro e w3 ⟨rfl, hb⟩; obtain ⟨fn, tmps, assign, body, hy, hR⟩ := hY pre q w3 (hJ _ _ _ none hJr (below_grown hb) (fun r e => by cases e)) hlen; simp only [ipEnc, ipL] at hy; have HR : Hid (RoundIn Fence.wide (n - 1) Try.prog l fn tmps assign body w3 fun e W' => e = .returned (.bool true) ∧ J (pre ++ [q]) W' ∧ KpF c0 W.heap.size w3 W') := hR; clear hR)
      refine HR.out.mono ?_
      rintro e W3 ⟨rfl, hJ3, hk3⟩
      gi_wp2
      first | go_end0 | refine bodyPost_ret (results_none rfl _ _ _) rfl ?_
      exact ⟨⟨_, rfl⟩, _, HL.out.symm, hJ3⟩
    · have hfi : mtu < frSize q := by omega
      obtain ⟨hr1, hr2, hr3, hr4⟩ := frRoom_in hm0 hqo (show mtu < frSize q by omega)
      have hG2 := frSeq_go (c := c) hm0 hc40 hqo (show mtu < frSize q by omega)
      have hms := frMove_size (c := c) (mtu := mtu) (p := q)
      have hmv : frMove c mtu q = ⟨q.tos, q.id, q.df, q.mf, q.off + (frRoom mtu q : Int) / 8, q.ttl, q.pro, q.src, q.dst, c, q.data.extract (frRoom mtu q) q.data.size⟩ := rfl
      have hhd : frHead mtu q = ⟨q.tos, q.id, q.df, true, q.off, q.ttl, q.pro, q.src, q.dst, q.opts, q.data.extract 0 (frRoom mtu q)⟩ := rfl
      rw [hhd] at hG2
      rw [hG2] at HS
      obtain ⟨q2, hq2⟩ : ∃ q2, Hid (q2 = frMove c mtu q) := ⟨_, rfl⟩
      rw [← hq2.out] at HS hms
      have hq2' := hq2.out
      rw [hmv] at hq2'
      have HQ2 : Hid (q2 = _) := hq2'
      clear hG2 hmv hhd hq2 hq2'
      generalize frRoom mtu q = r at *
      have hlen : pre.length < (frSeq c mtu p).length := by rw [HS.out]; simp
      have hdv : Int.tdiv (mtu - (20 + (q.opts.size : Int))) 8 = (mtu - (20 + (q.opts.size : Int))) / 8 := Int.tdiv_eq_ediv_of_nonneg (by omega)
      gi_wp2_with fail
      have hne := BW.some u1.u
      have a0 := fun u : BW u1.u => (hQ.ofBW u).2 0 _ rfl; have a1 := fun u : BW u1.u => (hQ.ofBW u).2 1 _ rfl; have a2 := fun u : BW u1.u => (hQ.ofBW u).2 2 _ rfl; have a3 := fun u : BW u1.u => (hQ.ofBW u).2 3 _ rfl; have a4 := fun u : BW u1.u => (hQ.ofBW u).2 4 _ rfl; have a5 := fun u : BW u1.u => (hQ.ofBW u).2 5 _ rfl; have a6 := fun u : BW u1.u => (hQ.ofBW u).2 6 _ rfl; have a7 := fun u : BW u1.u => (hQ.ofBW u).2 7 _ rfl; have a8 := fun u : BW u1.u => (hQ.ofBW u).2 8 _ rfl; have a9 := fun u : BW u1.u => (hQ.ofBW u).2 9 _ rfl; have a10 := fun u : BW u1.u => (hQ.ofBW u).2 10 _ rfl
      have m0 := fun u : BW u1.u => (u.le.cell (p := ⟨c0 + 2, 0, none⟩) (lt_of_cell hM)).trans hM
      refine wpIn_region_below (F := Fence.wide) rfl (by kernel_rfl) (by kernel_rfl) ?_
      repeat (gi_big_quiet_step (fail))
      refine wpQuietIn_wide rfl fun K hK => ?_
      gi_big_quiet_op
      apply Exists.intro
      refine ⟨fun _ => ?_, ?_⟩
      · exact callsIn_wide.2 (Calls.into (CHq.out _))
      refine hK _ ?_
      clear hK K
      repeat (gi_big_quiet_step (fail))
      refine wpQuietIn_nil ?_
      intro _ hw'
      obtain ⟨u2, hw''⟩ := hw'
      subst hw''
      clear a0 a1 a2 a3 a4 a5 a6 a7 a8 a9 a10 m0 hne
      replace hJr := hJ _ _ _ none hJr (below_grown u2.le) (fun r e => by cases e)
      replace hC := (u2.le.cell (p := ⟨c0 + 1, 0, none⟩) (lt_of_cell hC)).trans hC
      replace hM := (u2.le.cell (p := ⟨c0 + 2, 0, none⟩) (lt_of_cell hM)).trans hM
      replace hQ := hQ.ofBW u2
      replace hQF := hQF.below u2.le
      have hr' : (mtu - (20 + (q.opts.size : Int))) / 8 * 8 = (r : Int) := hr4.symm
      rw [hr']
      clear hr4 hr'
      have t0 : (0 : Int) ≤ (r : Int) := by omega
      have t3 : (r : Int) ≤ (q.data.size : Int) := by omega
      have a0 := hQ.2 0 _ rfl; have a1 := hQ.2 1 _ rfl; have a2 := hQ.2 2 _ rfl; have a3 := hQ.2 3 _ rfl; have a4 := hQ.2 4 _ rfl; have a5 := hQ.2 5 _ rfl; have a6 := hQ.2 6 _ rfl; have a7 := hQ.2 7 _ rfl; have a8 := hQ.2 8 _ rfl; have a9 := hQ.2 9 _ rfl; have a10 := hQ.2 10 _ rfl
      have COh : Hid (∀ u : World, Calls Try.prog 58 #[.agg #[.int .i64 q.tos, .int .i64 q.id, .bool q.df, .bool true, .int .i64 q.off, .int .i64 q.ttl, .int .i64 q.pro, .int .i64 q.src, .int .i64 q.dst, .string q.opts, .string (q.data.extract 0 r)]] u fun e w' => e = .returned (.agg #[.int .i64 q.tos, .int .i64 q.id, .bool q.df, .bool true, .int .i64 q.off, .int .i64 q.ttl, .int .i64 q.pro, .int .i64 q.src, .int .i64 q.dst, .string q.opts, .string (q.data.extract 0 r)]) ∧ Below u.heap.size u w') := fun u => CO.out ⟨q.tos, q.id, q.df, true, q.off, q.ttl, q.pro, q.src, q.dst, q.opts, q.data.extract 0 r⟩ u hqo (by rw [ByteArray.size_extract]; omega)
      generalize u2.u = w2 at *
      have hal := (Below.refl w2.heap.size w2).alloc (Nat.le_refl _) (.cells #[.int .i64 q.tos, .int .i64 q.id, .bool q.df, .bool true, .int .i64 q.off, .int .i64 q.ttl, .int .i64 q.pro, .int .i64 q.src, .int .i64 q.dst, .string q.opts, .string (q.data.extract 0 r)] 28)
      have hlt := hQ.1
      have hne2 : ¬ (W.heap.size = w2.heap.size) := by omega
      have b10 := (((Below.refl w2.heap.size w2).alloc (Nat.le_refl _) (.cells #[.int .i64 q.tos, .int .i64 q.id, .bool q.df, .bool q.mf, .int .i64 q.off, .int .i64 q.ttl, .int .i64 q.pro, .int .i64 q.src, .int .i64 q.dst, .string q.opts, .string q.data] 28)).cell (p := ⟨W.heap.size, 10, none⟩) hlt).trans a10
      have hP1 := Bx.new w2 #[.int .i64 q.tos, .int .i64 q.id, .bool q.df, .bool true, .int .i64 q.off, .int .i64 q.ttl, .int .i64 q.pro, .int .i64 q.src, .int .i64 q.dst, .string q.opts, .string (q.data.extract 0 r)] 28
      replace hJr := hJ _ _ _ none hJr (below_grown hal) (fun r e => by cases e)
      replace hC := (hal.cell (p := ⟨c0 + 1, 0, none⟩) (lt_of_cell hC)).trans hC
      replace hM := (hal.cell (p := ⟨c0 + 2, 0, none⟩) (lt_of_cell hM)).trans hM
      replace hQ := hQ.below hal
      replace hQF := hQF.below hal
      have HR1 : Hid (8 ≤ r ∧ r < q.data.size) := ⟨hr1, hr2⟩
      clear COq CHq CO hr1 hr2 hdv
      gi_wp2_with (refine ⟨trivial, ?_⟩; gi_at_call 58; refine (callsIn_wide.2 (COh.out _)).mono ?_; rintro e w3 ⟨rfl, hb⟩; obtain ⟨fn, tmps, assign, body, hy, hR⟩ := hY pre ⟨q.tos, q.id, q.df, true, q.off, q.ttl, q.pro, q.src, q.dst, q.opts, q.data.extract 0 r⟩ w3 (hJ _ _ _ none hJr (below_grown hb) (fun r e => by cases e)) hlen; simp only [ipEnc, ipL] at hy; have HR : Hid (RoundIn Fence.wide (n - 1) Try.prog l fn tmps assign body w3 fun e W' => e = .returned (.bool true) ∧ J (pre ++ [⟨q.tos, q.id, q.df, true, q.off, q.ttl, q.pro, q.src, q.dst, q.opts, q.data.extract 0 r⟩]) W' ∧ KpF c0 W.heap.size w3 W') := hR; clear hR; have hB3 := hb; clear hb)
      refine HR.out.mono ?_
      rintro e W3 ⟨rfl, hJ3, hk3⟩
      have hQ3 := hk3.bx (.inr rfl) (hQ.below hB3)
      have hQF3 := hk3.fx (.inr rfl) (hQF.below hB3)
      have hC2 := (hB3.cell (p := ⟨c0 + 1, 0, none⟩) (lt_of_cell hC)).trans hC
      have hC3 := (hk3.cell (k := c0 + 1) (j := 0) (.inl ⟨by omega, by omega⟩) (lt_of_cell hC2)).trans hC2
      have hM2 := (hB3.cell (p := ⟨c0 + 2, 0, none⟩) (lt_of_cell hM)).trans hM
      have hM3 := (hk3.cell (k := c0 + 2) (j := 0) (.inl ⟨by omega, by omega⟩) (lt_of_cell hM2)).trans hM2
      clear hk3 hB3 hC2 hM2 hQ hQF hC hM hJr hal hP1 hlt b10 a0 a1 a2 a3 a4 a5 a6 a7 a8 a9 a10 hy hne2
      have HQ3 := HQ2.out
      subst HQ3
      have hgc1 : ¬ (W.heap.size = c0 + 1) := by omega
      have hgc2 : ¬ (W.heap.size = c0 + 2) := by omega
      have q9 := hQ3.2 9 _ rfl; have q4 := hQ3.2 4 _ rfl; have q10 := hQ3.2 10 _ rfl; have f9 := hQF3.2 9; have f4 := hQF3.2 4; have f10 := hQF3.2 10
      have hQ4 : Bx (((W3.setCell ⟨W.heap.size, 9, none⟩ (.string c)).setCell ⟨W.heap.size, 4, none⟩ (.int .i64 (q.off + (r : Int) / 8))).setCell ⟨W.heap.size, 10, none⟩ (.string (q.data.extract r q.data.size))) W.heap.size [.int .i64 q.tos, .int .i64 q.id, .bool q.df, .bool q.mf, .int .i64 (q.off + (r : Int) / 8), .int .i64 q.ttl, .int .i64 q.pro, .int .i64 q.src, .int .i64 q.dst, .string c, .string (q.data.extract r q.data.size)] := ((hQ3.put 9 (.string c)).put 4 (.int .i64 (q.off + (r : Int) / 8))).put 10 (.string (q.data.extract r q.data.size))
      have hQF4 : Fx (((W3.setCell ⟨W.heap.size, 9, none⟩ (.string c)).setCell ⟨W.heap.size, 4, none⟩ (.int .i64 (q.off + (r : Int) / 8))).setCell ⟨W.heap.size, 10, none⟩ (.string (q.data.extract r q.data.size))) W.heap.size := ((hQF3.put _ _).put _ _).put _ _
      have hC4 : (((W3.setCell ⟨W.heap.size, 9, none⟩ (.string c)).setCell ⟨W.heap.size, 4, none⟩ (.int .i64 (q.off + (r : Int) / 8))).setCell ⟨W.heap.size, 10, none⟩ (.string (q.data.extract r q.data.size))).cell? ⟨c0 + 1, 0, none⟩ = some (.string c) := (World.cell?_setCell_other _ _ _ _ (fun k => hgc1 (congrArg Addr.block k))).trans ((World.cell?_setCell_other _ _ _ _ (fun k => hgc1 (congrArg Addr.block k))).trans ((World.cell?_setCell_other _ _ _ _ (fun k => hgc1 (congrArg Addr.block k))).trans hC3))
      have hM4 : (((W3.setCell ⟨W.heap.size, 9, none⟩ (.string c)).setCell ⟨W.heap.size, 4, none⟩ (.int .i64 (q.off + (r : Int) / 8))).setCell ⟨W.heap.size, 10, none⟩ (.string (q.data.extract r q.data.size))).cell? ⟨c0 + 2, 0, none⟩ = some (.int .i64 mtu) := (World.cell?_setCell_other _ _ _ _ (fun k => hgc2 (congrArg Addr.block k))).trans ((World.cell?_setCell_other _ _ _ _ (fun k => hgc2 (congrArg Addr.block k))).trans ((World.cell?_setCell_other _ _ _ _ (fun k => hgc2 (congrArg Addr.block k))).trans hM3))
      have hJ4 := hJ _ _ _ (some W.heap.size) (hJ _ _ _ (some W.heap.size) (hJ _ _ _ (some W.heap.size) hJ3 (grown_setF W3 W.heap.size 9 (.string c)) (fun r e => by cases e; rfl)) (grown_setF _ W.heap.size 4 (.int .i64 (q.off + (r : Int) / 8))) (fun r e => by cases e; rfl)) (grown_setF _ W.heap.size 10 (.string (q.data.extract r q.data.size))) (fun r e => by cases e; rfl)
      have hdr : Int.tdiv (r : Int) 8 = (r : Int) / 8 := Int.tdiv_eq_ediv_of_nonneg (by omega)
      have HL : Hid (frSeq c mtu p = (pre ++ [⟨q.tos, q.id, q.df, true, q.off, q.ttl, q.pro, q.src, q.dst, q.opts, q.data.extract 0 r⟩]) ++ _) := HS.out.trans (by rw [List.append_assoc]; rfl)
      have HM : Hid (dataLeft (((W3.setCell ⟨W.heap.size, 9, none⟩ (.string c)).setCell ⟨W.heap.size, 4, none⟩ (.int .i64 (q.off + (r : Int) / 8))).setCell ⟨W.heap.size, 10, none⟩ (.string (q.data.extract r q.data.size))) W.heap.size = (q.data.extract r q.data.size).size) := dataLeft_at (hQ4.2 10 _ rfl)
      have HZ : Hid ((q.data.extract r q.data.size).size = q.data.size - r) := by show _ = _; rw [ByteArray.size_extract]; omega
      clear HS HQ2 hms hQ3 hQF3 hM3
      gi_wp2
      go_roundw
      case rel => exact ⟨_, ⟨q.tos, q.id, q.df, q.mf, q.off + (r : Int) / 8, q.ttl, q.pro, q.src, q.dst, c, q.data.extract r q.data.size⟩, HL.out, hc40, by show 0 ≤ q.off + (r : Int) / 8; omega, by show (q.off + (r : Int) / 8) * 8 + ((q.data.extract r q.data.size).size : Int) ≤ 131063; rw [HZ.out]; have := HR1.out; omega, by show (q.data.extract r q.data.size).size ≤ 65535; rw [HZ.out]; omega, hJ4, hQ4, hQF4, hC4, hM4⟩
      case measure => rw [HM.out, HD.out, HZ.out]; have := HR1.out; omega
end Go.Proofs.Ytgfpoohjbgdcpaa
