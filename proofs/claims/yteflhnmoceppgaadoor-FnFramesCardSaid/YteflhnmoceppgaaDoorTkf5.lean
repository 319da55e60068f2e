/-
  Frames that are taken off a text: the program goes through them till it gives up.
-/
import Derived.Test.YteflhnmoceppgaaDoorTkf4
import Derived.Defers
import Derived.Recover
import Derived.Deep.Onto
namespace Go.Proofs.YteflhnmoceppgaaDoor
open Go.RowKit Go.PlainAid
theorem as_gaveUp (v : Value) (xT : TypeId) (w : World) : (Instr.typeAssert (.iface 50 v) xT 50 true).run Tryd.prog w = .ok (.tuple #[v, .bool true]) w := by kernel_rfl
set_option maxHeartbeats 6400000 in
theorem c_catch (E : Nat) (x : Value) (a : Int) (w : World) (h : Boxed w E 2 x) :
    CallsD Tryd.prog 26 #[.pointer (some ⟨E, 0, none⟩)] (.panicking [{ v := .iface 50 (.int .i64 a), recovered := false }]) w fun e u' w' =>
      e = .returned (.tuple #[]) ∧ u' = .panicking [{ v := .iface 50 (.int .i64 a), recovered := true }] ∧ w' = w.setCell ⟨E, 0, none⟩ (.int .i64 a) := by
  have hc := h.cell
  have hz := h.frozen
  refine callsD_of_wpS Tryd.func26 rfl fun c₀ cs hu => ?_
  simp only [Tryd.ntmps26, List.size_toArray, List.length_cons, List.length_nil, Nat.reduceAdd, Nat.reduceSub, Array.replicate_succ, Array.replicate_zero, List.push_toArray, List.append_toArray, List.nil_append, List.cons_append]
  apply wpS_seq
  apply wpS_region
  simp [wpOpsS, go_sem, recoverD, hu, Exit.thenS, as_gaveUp]
  apply wpS_seq
  apply wpS_region
  simp [wpOpsS, go_sem, Exit.thenS]
  refine wpS_cond (t := true) (by simp [Act.eval]) ?_
  simp only [if_true]
  apply wpS_region
  simp [wpOpsS, go_sem, hc, hz, bodyPostS, results, Tryd.results26]
theorem grownT (w : World) (b j : Nat) (u : Value) : w.grownBy (w.setCell ⟨b, j, none⟩ u) (some b) :=
  ⟨rfl, rfl, rfl, by simp, fun k _ hr => Below.heap_setCell _ _ _ _ fun e => hr (by rw [e])⟩
/-- where the reader of frames stands, read off its cell -/
def tkAt (b : Nat) (w : World) : Int := intOf ((w.cell? ⟨b, 3, none⟩).getD undef)
theorem TkS.at {s : ByteArray} {a wh : Nat} {L : List ByteArray} {v : Value} {B F R b : Nat} {w : World} (h : TkS s a wh L v B F R b w) : tkAt b w = (wh : Int) := by
  unfold tkAt; rw [h.box.2 3 _ rfl]; rfl
theorem TkS.moved {s : ByteArray} {a wh : Nat} {L : List ByteArray} {v : Value} {B F R b : Nat} {w : World} (h : TkS s a wh L v B F R b w) : TkS s a a L v B F R b (w.setCell ⟨b, 3, none⟩ (.int .i64 (a : Int))) := by
  obtain ⟨f1, f2, f3, f4, f5, f6, f7, f8, f9, f10⟩ := h.far
  have hg := grownT w b 3 (.int .i64 (a : Int))
  have hlt := fun k (hk : v.ownBlock = some k) => (World.ownsRow.lt h.row k hk).1
  exact ⟨h.list.kept hg (by simpa using f5), h.row.keptT hg (fun k hk e => (by cases e; have := hlt _ hk; omega)), h.rd.kept hg (by simpa using f6), h.box.put 3 _, h.free.put _ _, fun i hi => (World.cell?_of_block (w := w) (a := ⟨0, i, none⟩) (hg.block _ (lt_of_cell (h.tab i hi)) (by simpa using f8))).trans (h.tab i hi), ⟨Nat.le_trans f1 hg.size, f2, f3, f4, f5, f6, f7, f8, f9, f10⟩⟩
theorem TkS.alloc {s : ByteArray} {a wh : Nat} {L : List ByteArray} {v : Value} {B F R b : Nat} {w : World} (h : TkS s a wh L v B F R b w) (o : Obj) : TkS s a wh L v B F R b (w.alloc o) := by
  obtain ⟨f1, f⟩ := h.far
  have hg := World.grownBy_alloc w o none
  exact ⟨h.list.alloc _, h.row.alloc _, h.rd.alloc _, h.box.keptT hg (by simp), h.free.keptT hg (by simp), fun i hi => (World.cell?_of_block (w := w) (a := ⟨0, i, none⟩) (hg.block _ (lt_of_cell (h.tab i hi)) (by simp))).trans (h.tab i hi), Nat.le_trans f1 hg.size, f⟩
structure TkG (s : ByteArray) (B F R b E : Nat) (w0 w : World) (a : Nat) (L : List ByteArray) (v : Value) : Prop where
  le : a ≤ s.size
  len : L.length ≤ a
  ans : (tkR s 0).1 = L ++ (tkR s a).1 ∧ (tkR s 0).2 = (tkR s a).2
  st : TkS s a a L v B F R b w
  res : Boxed w E 2 (.int .i64 0)
  low : Below 0 w0 w
  block : ∀ k, k < B → k ≠ F → k ≠ b → w.heap[k]? = w0.heap[k]?
set_option maxRecDepth 100000 in
set_option maxHeartbeats 6400000 in
theorem c_goThrough (s : ByteArray) (v : Value) (B F R b : Nat) (w : World) (hs : s.size ≤ 1048576) (h : TkS s 0 0 [] v B F R b w) :
    Calls Tryd.prog 17 #[.pointer (some ⟨b, 0, none⟩), .func (.func 18) #[] #[.pointer (some ⟨F, 0, none⟩), .pointer (some ⟨R, 0, none⟩)]] w fun e w' =>
      e = .returned (.int .i64 ((tkR s 0).2 : Int)) ∧ ∃ v', Boxed w' F 25 v' ∧ ownV w' B 9 1 v' (tkR s 0).1.length (stF (tkR s 0).1) ∧ Below 0 w w' ∧ ∀ k, k < B → k ≠ F → k ≠ b → w'.heap[k]? = w.heap[k]? := by
  have hmf : ∀ (fn : Fn) (first cap : Array Value) (w : World), (Instr.makeFunc fn first cap).run Tryd.prog w = .ok (.func fn first cap) w := fun _ _ _ _ => rfl
  go_enter_defers Tryd.func17, Tryd.ntmps17
  go_wp2_with fail
  go_loopw [6] (fun _ wr => ∃ a L v, TkG s B F R b w.heap.size w wr a L v) (fun _ wr => (s.size : Int).toNat - (tkAt b wr).toNat)
  case atStart => exact ⟨0, [], v, Nat.zero_le _, Nat.le_refl _, ⟨rfl, rfl⟩, TkS.alloc h _, Boxed.new w _ _, (Below.refl 0 w).alloc (Nat.zero_le _) _, fun k hk _ _ => Below.heap_alloc w _ k (Nat.lt_of_lt_of_le hk h.far.1)⟩
  case round =>
    obtain ⟨a, L, vL, hG⟩ := hrel
    have hat := hG.st.at
    obtain ⟨f1, f2, f3, f4, f5, f6, f7, f8, f9, f10⟩ := hG.st.far
    have g1 := h.far.1
    have hEB : B ≤ w.heap.size := h.far.1
    have hnr : vL.ownBlock ≠ some w.heap.size := fun e => hG.res.not_row (by decide) hG.st.row e.symm
    cases hok : tkOk s a
    · have CN : Hid (∀ u : World, u = wr → Calls Tryd.prog 18 #[.pointer (some ⟨F, 0, none⟩), .pointer (some ⟨R, 0, none⟩)] u fun e w' => e = .panicked [{ v := .iface 50 (.int .i64 (a : Int)), recovered := false }] ∧ u.grownBy w' (some b)) := fun u hu => by
        subst hu; exact c_take_no s a L vL B F R b u hG.le hs hG.st hok
      clear hat
      go_wp2_with fail
      go_at_call 18
      refine (CN.out _ rfl).mono ?_
      rintro e w3 ⟨rfl, hg⟩
      have hE : Boxed w3 w.heap.size 2 (.int .i64 0) := hG.res.kept hg (fun e => (by cases e; omega))
      refine leaves_cons (f := 26) (args := #[.pointer (some ⟨w.heap.size, 0, none⟩)]) (by simp) (by simp [go_sem]) ?_
      refine (c_catch _ _ _ _ hE).mono ?_
      rintro e u' w4 ⟨rfl, rfl, rfl⟩
      have hg4 := grownT w3 w.heap.size 0 (.int .i64 (a : Int))
      have hend := tkR_end hok
      have ha1 := hG.ans.1
      have ha2 := hG.ans.2
      rw [hend] at ha1 ha2
      have hz := (hE.set (.int .i64 (a : Int))).cell
      have hF4 := (hG.st.list.kept hg (by simpa using f5)).kept hg4 (fun e => (by cases e; omega))
      have hlt := fun k (hk : vL.ownBlock = some k) => (World.ownsRow.lt hG.st.row k hk).1
      have hrow4 := (hG.st.row.keptT hg (fun k hk e => (by cases e; have := hlt _ hk; omega))).keptT hg4 (fun k hk e => (by cases e; exact hnr hk))
      have hlow4 := (hG.low.grown hg (Nat.zero_le _) (fun _ _ => Nat.zero_le _)).grown hg4 (Nat.zero_le _) (fun _ _ => Nat.zero_le _)
      have hbl4 : ∀ k, k < B → k ≠ F → k ≠ b → (w3.setCell ⟨w.heap.size, 0, none⟩ (.int .i64 (a : Int))).heap[k]? = w.heap[k]? := fun k h1 h2 h3 =>
        ((hg4.block k (by have := hg.size; omega) (fun e => (by cases e; omega))).trans (hg.block k (by omega) (fun e => (by cases e; omega)))).trans (hG.block k h1 h2 h3)
      have e1 : (tkR s 0).1 = L := by simpa using ha1
      have e2 : (tkR s 0).2 = a := ha2
      rw [e1, e2]
      simp [Leaves, settle, results, Tryd.results17, go_sem, hz]
      exact ⟨vL, hF4, hrow4, hlow4, hbl4⟩
    · have CY : Hid (∀ u : World, u = wr → Calls Tryd.prog 18 #[.pointer (some ⟨F, 0, none⟩), .pointer (some ⟨R, 0, none⟩)] u fun e w' => e = .returned (.tuple #[]) ∧ (∃ v', TkS s (a + 8 + tkN s a) a (L ++ [tkD s a]) v' B F R b w') ∧ Kp3 F b vL u w') := fun u hu => by
        subst hu; exact c_take_yes s a L vL B F R b u hG.le hs hG.len hG.st hok
      clear hat
      go_wp2_with fail
      go_at_call 18
      refine (CY.out _ rfl).mono ?_
      rintro e w3 ⟨rfl, ⟨v3, hS⟩, hK⟩
      have hc1 := hS.box.2 1 _ rfl
      have hc3 := hS.box.2 3 _ rfl
      have hz3 := hS.free.2 3
      go_wp2
      go_roundw
      case rel =>
        have hin := tkOk_in hok
        have hgo := tkR_go hok
        have hg4 := grownT w3 b 3 (.int .i64 ((a + 8 + tkN s a : Nat) : Int))
        have hE3 : Boxed w3 w.heap.size 2 (.int .i64 0) := (hK.block _ hG.res.lt (by omega) (by omega) hnr).trans hG.res
        have hlt := fun k (hk : vL.ownBlock = some k) => (World.ownsRow.lt hG.st.row k hk).1
        exact ⟨a + 8 + tkN s a, L ++ [tkD s a], v3, by omega, by simp; have := hG.len; omega, ⟨by rw [hG.ans.1, hgo.1]; simp, by rw [hG.ans.2, hgo.2]⟩, hS.moved, hE3.kept hg4 (fun e => (by cases e; omega)), (hG.low.trans hK.low).grown hg4 (Nat.zero_le _) (fun _ _ => Nat.zero_le _), fun k h1 h2 h3 => (hg4.block k (by have := hK.low.size; omega) (fun e => (by cases e; omega))).trans ((hK.block k (by omega) h2 h3 (fun e => (by have := hlt k e; omega))).trans (hG.block k h1 h2 h3))⟩
      case measure =>
        have hin := tkOk_in hok
        have h2 := hS.moved.at
        have h1 := hG.st.at
        rw [show ((a + 8 + tkN s a : Nat) : Int) = (a : Int) + 8 + (tkN s a : Int) from (by omega)] at h2
        rw [h1, h2]
        have := hG.le
        omega
theorem i_readerOf (s : ByteArray) (u : World) : Calls Tryd.prog 16 #[.string s] u fun e w' => e = .returned (.pointer (some ⟨u.heap.size, 0, none⟩)) ∧ w' = u.alloc (.cells #[.string s, .int .i64 0, .bool false, .int .i64 0] 49) := by
  go_enter Tryd.func16, Tryd.ntmps16
  go_wp2
  go_ret
  exact ⟨rfl, rfl⟩
theorem TkS.start (s : ByteArray) (w : World) (hT : CrcTab w) (vt : TypeId) :
    TkS s 0 0 [] (.slice none 0 0) (w.heap.size + 1 + 1 + 1) w.heap.size (w.heap.size + 1 + 1) (w.heap.size + 1) (((w.alloc (.cells #[.slice none 0 0] 25)).alloc (.cells #[.string s, .int .i64 0, .bool false, .int .i64 0] vt)).alloc (.cells #[.pointer (some ⟨w.heap.size + 1, 0, none⟩)] 34)) ∧ Below w.heap.size w (((w.alloc (.cells #[.slice none 0 0] 25)).alloc (.cells #[.string s, .int .i64 0, .bool false, .int .i64 0] vt)).alloc (.cells #[.pointer (some ⟨w.heap.size + 1, 0, none⟩)] 34)) := by
  have hg0 := lt_of_cell (hT 0 (by decide))
  have h1 := Boxed.new w 25 (.slice none 0 0)
  have hB1 := (Below.refl w.heap.size w).alloc (Nat.le_refl _) (.cells #[.slice none 0 0] 25)
  have s1 : (w.alloc (.cells #[.slice none 0 0] 25)).heap.size = w.heap.size + 1 := by simp
  generalize w.alloc (.cells #[.slice none 0 0] 25) = w1 at *
  have h2 := Bx.new w1 #[.string s, .int .i64 0, .bool false, .int .i64 0] vt
  have h2f := Fx.new w1 #[.string s, .int .i64 0, .bool false, .int .i64 0] vt
  have h12 := h1.alloc (.cells #[.string s, .int .i64 0, .bool false, .int .i64 0] vt)
  have hB2 := hB1.alloc (by omega) (.cells #[.string s, .int .i64 0, .bool false, .int .i64 0] vt)
  have s2 : (w1.alloc (.cells #[.string s, .int .i64 0, .bool false, .int .i64 0] vt)).heap.size = w.heap.size + 1 + 1 := by rw [World.size_alloc, s1]
  rw [s1] at h2 h2f
  generalize w1.alloc (.cells #[.string s, .int .i64 0, .bool false, .int .i64 0] vt) = w2 at *
  have h3 := Boxed.new w2 34 (.pointer (some ⟨w.heap.size + 1, 0, none⟩))
  have hB3 := hB2.alloc (by omega) (.cells #[.pointer (some ⟨w.heap.size + 1, 0, none⟩)] 34)
  have hg3 := World.grownBy_alloc w2 (.cells #[.pointer (some ⟨w.heap.size + 1, 0, none⟩)] 34) none
  have h13 := h12.alloc (.cells #[.pointer (some ⟨w.heap.size + 1, 0, none⟩)] 34)
  have s3 : (w2.alloc (.cells #[.pointer (some ⟨w.heap.size + 1, 0, none⟩)] 34)).heap.size = w.heap.size + 1 + 1 + 1 := by rw [World.size_alloc, s2]
  rw [s2] at h3
  have h2' := h2.keptT hg3 (by simp)
  have h2f' := h2f.keptT hg3 (by simp)
  generalize w2.alloc (.cells #[.pointer (some ⟨w.heap.size + 1, 0, none⟩)] 34) = w3 at *
  have hT3 : CrcTab w3 := hT.below hB3
  refine ⟨⟨h13, ownV.nil _ _ _ _, h3, h2', h2f', hT3, ?_⟩, hB3⟩
  have hg1 : 0 < w.heap.size := hg0
  refine ⟨?_, ?_, ?_, ?_, ?_, ?_, ?_, ?_, ?_, ?_⟩ <;> omega
set_option maxRecDepth 100000 in
set_option maxHeartbeats 6400000 in
theorem i_TakeFrames (s : ByteArray) (w : World) (hs : s.size ≤ 1048576) (hT : CrcTab w) :
    Calls Tryd.prog 6 #[.string s] w fun e w' => ∃ v, e = .returned (.tuple #[v, .int .i64 ((tkR s 0).2 : Int)]) ∧ ownV w' w.heap.size 9 1 v (tkR s 0).1.length (stF (tkR s 0).1) ∧ Below w.heap.size w w' := by
  have hmf : ∀ (fn : Fn) (first cap : Array Value) (w : World), (Instr.makeFunc fn first cap).run Tryd.prog w = .ok (.func fn first cap) w := fun _ _ _ _ => rfl
  go_enter Tryd.func6, Tryd.ntmps6
  have CR : Hid (∀ u : World, Calls Tryd.prog 16 #[.string s] u fun e w' => e = .returned (.pointer (some ⟨u.heap.size, 0, none⟩)) ∧ w' = u.alloc (.cells #[.string s, .int .i64 0, .bool false, .int .i64 0] 49)) := fun u => i_readerOf s u
  go_wp2_with fail
  go_at_call 16
  refine (CR.out _).mono ?_
  rintro e w2 ⟨rfl, rfl⟩
  obtain ⟨hS, hBl⟩ := TkS.start s w hT 49
  have CG : Hid (∀ u : World, TkS s 0 0 [] (.slice none 0 0) (w.heap.size + 1 + 1 + 1) w.heap.size (w.heap.size + 1 + 1) (w.heap.size + 1) u → Calls Tryd.prog 17 #[.pointer (some ⟨w.heap.size + 1, 0, none⟩), .func (.func 18) #[] #[.pointer (some ⟨w.heap.size, 0, none⟩), .pointer (some ⟨w.heap.size + 1 + 1, 0, none⟩)]] u fun e w' =>
      e = .returned (.int .i64 ((tkR s 0).2 : Int)) ∧ ∃ v', Boxed w' w.heap.size 25 v' ∧ ownV w' (w.heap.size + 1 + 1 + 1) 9 1 v' (tkR s 0).1.length (stF (tkR s 0).1) ∧ Below 0 u w' ∧ ∀ k, k < w.heap.size + 1 + 1 + 1 → k ≠ w.heap.size → k ≠ w.heap.size + 1 → w'.heap[k]? = u.heap[k]?) := fun u h => c_goThrough s _ _ _ _ _ u hs h
  go_wp2_with fail
  go_at_call 17
  refine (CG.out _ hS).mono ?_
  rintro e w3 ⟨rfl, v3, hF, hrow, hlow, hblk⟩
  have hc := hF.cell
  go_wp2
  go_ret2
  refine ⟨v3, rfl, hrow.mono (by omega), ⟨hlow.os.trans hBl.os, hlow.tape.trans hBl.tape, hlow.output.trans hBl.output, Nat.le_trans hBl.size hlow.size, fun k hk => (hblk k (by omega) (by omega) (by omega)).trans (hBl.block k hk)⟩⟩
end Go.Proofs.YteflhnmoceppgaaDoor
