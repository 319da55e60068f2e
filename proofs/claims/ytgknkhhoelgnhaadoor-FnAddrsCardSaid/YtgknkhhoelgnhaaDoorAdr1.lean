/-
  Numbers in decimal: the model; addresses in texts.
-/
import Derived.Test.YtgknkhhoelgnhaaDoorStrs
import Derived.Test.YtgknkhhoelgnhaaDoorWalks1
import Derived.Lib.ItoaLen
namespace Go.Proofs.YtgknkhhoelgnhaaDoor
open Go.RowKit Go.PlainAid
theorem wpList_textD {w : World} {ops : Array Oper} {rest : List Oper} {o : Oper} {a : Act} {Q : Exit → Act → World → Prop} (hgd : o.guard = none) (x : Operand)
    (ho : o.op = .convert 29 9 x) (g n cap : Nat) (l : List UInt8) (hn : n = l.length) (hs : a.eval x = .slice (some ⟨g, 0, none⟩) n cap) (hc : ∀ j c, l[j]? = some c → w.cell? ⟨g, j, none⟩ = some (.int .u8 (c.toNat : Int)))
    (h : wpList Tryd.prog ops Q rest (a.put o.dst (.string (str l))) w) : wpList Tryd.prog ops Q (o :: rest) a w := by
  subst hn
  refine wpList_plain hgd fun K hK' => ?_
  unfold Oper.wp execOp
  have e : ∀ j, (⟨g, 0, none⟩ : Addr).add j = ⟨g, j, none⟩ := fun j => by unfold Addr.add; split <;> simp_all
  have hr := run_convert_bytes_back (P := Tryd.prog) w 29 9 5 ⟨g, 0, none⟩ cap l Tryd.underlying29 Tryd.underlying5 Tryd.underlying9 (fun j hj => by rw [e]; exact hc j _ (List.getElem?_eq_getElem hj))
  simp [ho, hs, hr, Result.andThen]
  exact hK' _ _ h
theorem one_cell (w : World) (c : UInt8) (x : Int) (T : TypeId) (hx : x = (c.toNat : Int)) : ∀ j c', [c][j]? = some c' → (w.alloc (.cells #[.int .u8 x] T)).cell? ⟨w.heap.size, j, none⟩ = some (.int .u8 (c'.toNat : Int)) := by
  intro j c' hj
  have h0 : j = 0 := by
    have := (List.getElem?_eq_some_iff.1 hj).1
    simp at this; exact this
  subst h0
  simp at hj
  subst hj; subst hx
  rw [World.cell?_alloc_mark]; rfl
theorem dg_toNat (m : Nat) : ((UInt8.ofNat (48 + m % 10)).toNat : Int) = 48 + (m : Int) % 10 := by
  have : (UInt8.ofNat (48 + m % 10)).toNat = 48 + m % 10 := by simp [UInt8.toNat_ofNat']; omega
  rw [this]; omega
def intD : Value → Int
  | .int _ n => n
  | _ => 0
theorem dec_step (m : Nat) (h : ¬ m < 10) : Lib.decDigits m = Lib.decDigits (m / 10) ++ [UInt8.ofNat (48 + m % 10)] := by
  rw [Lib.decDigits, dif_neg h]
theorem dec_len (n : Nat) (h : n ≤ 9223372036854775807) : (Lib.decDigits n).length ≤ 21 := by
  have := Lib.itoa_length_le (n : Int) (by omega) (by omega)
  rw [Lib.itoa_nonneg] at this
  exact this
set_option maxRecDepth 100000 in
set_option maxHeartbeats 1600000 in
theorem s_Dec (n : Nat) (w : World) (hn : n ≤ 9223372036854775807) :
    Calls Tryd.prog 34 #[.int .i64 (n : Int)] w fun e w' => e = .returned (.string (str (Lib.decDigits n))) ∧ Below w.heap.size w w' := by
  have hdl := dec_len n hn
  have hw0 : IntKind.u64.wrap (n : Int) = (n : Int) := by rw [IntKind.wrap_u64]; omega
  have hn0 : ¬ (n : Int) < 0 := by omega
  go_enter Tryd.func34, Tryd.ntmps34
  go_wp2
  go_loopw [3, 4] (fun c s wr => ∃ (m : Nat) (t : List UInt8), c = .int .u64 (m : Int) ∧ s = .string (str t) ∧ Lib.decDigits m ++ t = Lib.decDigits n ∧ m ≤ n ∧ Below w.heap.size w wr) (fun c _ _ => (intD c).toNat)
  case atStart => exact ⟨n, [], rfl, rfl, by simp, Nat.le_refl _, Below.refl _ _⟩
  case round =>
    obtain ⟨m, t, rfl, rfl, hd, hm, hb⟩ := hrel
    have htl : t.length ≤ 21 := by have := congrArg List.length hd; simp at this; omega
    by_cases h10 : m < 10
    · have hx : Lib.decDigits m = [UInt8.ofNat (48 + m)] := Lib.decDigits_one h10
      have hmi : ¬ (10 : Int) ≤ (m : Int) := by omega
      obtain ⟨d, hdd⟩ : ∃ d, d = UInt8.ofNat (48 + m) := ⟨_, rfl⟩
      have hdn : (48 + (m : Int)) = (d.toNat : Int) := by have := dg_toNat m; rw [Nat.mod_eq_of_lt h10] at this; rw [hdd]; omega
      rw [← hdd] at hx
      clear hdd
      have HF : Hid (∀ j c', ([d] : List UInt8)[j]? = some c' → (wr.alloc (.cells #[.int .u8 (48 + (m : Int))] 5)).cell? ⟨wr.heap.size, j, none⟩ = some (.int .u8 (c'.toNat : Int))) := one_cell wr _ _ _ hdn
      have HR : Hid (str (Lib.decDigits n) = str [d] ++ str t) := by show _ = _; rw [← hd, hx, str_app]
      clear hdn
      clear hd hx
      have hb2 := hb.alloc hb.size (.cells #[.int .u8 (48 + (m : Int))] 5)
      have hms : ([d] : List UInt8).length = 1 := rfl
      go_wp2_with (refine wpList_textD rfl _ rfl wr.heap.size 1 1 [d] rfl rfl (by exact HF.out) ?_)
      go_ret
      exact ⟨by rw [HR.out]; rfl, hb2⟩
    · have hx := dec_step m h10
      have hmi : (10 : Int) ≤ (m : Int) := by omega
      obtain ⟨d, hdd⟩ : ∃ d, d = UInt8.ofNat (48 + m % 10) := ⟨_, rfl⟩
      have hdn : (48 + (m : Int) % 10) = (d.toNat : Int) := by rw [hdd]; exact (dg_toNat m).symm
      rw [← hdd] at hx
      clear hdd
      have HF : Hid (∀ j c', ([d] : List UInt8)[j]? = some c' → (wr.alloc (.cells #[.int .u8 (48 + (m : Int) % 10)] 5)).cell? ⟨wr.heap.size, j, none⟩ = some (.int .u8 (c'.toNat : Int))) := one_cell wr _ _ _ hdn
      have hb2 := hb.alloc hb.size (.cells #[.int .u8 (48 + (m : Int) % 10)] 5)
      have hms : ([d] : List UInt8).length = 1 := rfl
      clear hdn
      have HR : Hid (Lib.decDigits (m / 10) ++ ([d] ++ t) = Lib.decDigits n) := by show _ = _; rw [← hd, hx, List.append_assoc]
      clear hd hx
      go_wp2_with (refine wpList_textD rfl _ rfl wr.heap.size 1 1 [d] rfl rfl (by exact HF.out) ?_)
      go_roundw
      case rel => exact ⟨m / 10, [d] ++ t, by go_num, by rw [str_app], HR.out, by omega, hb2⟩
      case measure => simp [intD]; omega
end Go.Proofs.YtgknkhhoelgnhaaDoor
