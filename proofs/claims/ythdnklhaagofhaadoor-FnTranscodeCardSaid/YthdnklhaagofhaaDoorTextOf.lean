/-
  The walks of both TextOf; the decoder's tables are a hypothesis on the world.
-/
import Derived.Test.YthdnklhaagofhaaDoorUtfEnc
import Derived.Test.YthdnklhaagofhaaDoorPtsI
import Derived.Test.YthdnklhaagofhaaDoorCharOk0
namespace Go.Proofs.YthdnklhaagofhaaDoor
open Go.ChangeShapes Go.WideShapes Go.ChangeAt Go.RowKit Go.Deep

/-- What both answer of points: their text, where they are one. -/
def TxOk (P : List Int) : Prop := P.length ≤ 24 ∧ AllCh P ∧ (runesBytes P).size ≤ 24
def TxPost (P : List Int) (w : World) (e : Ending) (w' : World) : Prop := (TxOk P → e = .returned (.tuple #[.string (runesBytes P), .bool true])) ∧ (¬ TxOk P → e = .returned (.tuple #[.string ⟨#[]⟩, .bool false])) ∧ Below w.heap.size w w'
theorem runes_size {P : List Int} (h : AllCh P) : (runesBytes P).size = (encP P).length := by rw [← runes_list h]; rfl
theorem AllCh.take {P : List Int} (h : AllCh P) (k : Nat) : AllCh (P.take k) := fun n hn => h n (List.mem_of_mem_take hn)
theorem allCh_snoc {P : List Int} {n : Int} (h : AllCh P) (hn : ChI n) : AllCh (P ++ [n]) := fun x hx => by
  rcases List.mem_append.1 hx with hx | hx
  · exact h x hx
  · obtain rfl : x = n := by simpa using hx
    exact hn
theorem take_snoc7 {l : List Int} {k : Nat} {x : Int} (h : l[k]? = some x) : l.take (k + 1) = l.take k ++ [x] := by
  obtain ⟨h1, h2⟩ := List.getElem?_eq_some_iff.1 h
  rw [List.take_succ_eq_append_getElem h1, h2]
theorem char_any (n : Int) (h : ChI n) (w : World) :
    Calls Tryd.prog 198 #[.int .i64 n] w fun e w' => e = .returned (.string (Utf8.encode n)) ∧ Below w.heap.size w w' := by
  rw [← enc_same h]
  unfold encI
  have h0 : 0 ≤ n ∧ n ≤ 1114111 := by unfold ChI at h; omega
  by_cases h1 : n < 128
  · rw [if_pos h1]
    exact l04Char_1 n h0.1 h1 w
  · rw [if_neg h1]
    by_cases h2 : n < 2048
    · rw [if_pos h2]
      exact l04Char_2 n (by omega) h2 w
    · rw [if_neg h2]
      by_cases h3 : n < 65536
      · rw [if_pos h3]
        exact l04Char_3 n (by omega) h3 w
      · rw [if_neg h3]
        exact l04Char_4 n (by omega) (by omega) w

theorem infoI32 : (Tryd.prog.info? 21).map (fun i => (i.zero, i.size, i.bytes)) = some (some (.int .i32 0), 1, 4) := by kernel_rfl
def num32 (n : Int) : Value := .int .i32 n
theorem i32_same {n : Int} (h : ChI n) : IntKind.i32.wrap n = n := by
  rw [IntKind.wrap_i32]
  unfold ChI at h
  omega
set_option maxRecDepth 100000 in
/-- A row of runes of one's own, as a string. -/
theorem conv_runes {w : World} {base n c : Nat} {xs : List Int} {R : Option Addr} (h : OwnL 21 num32 w base xs R n c) : (convert 108 9 (.slice R n c)).run Tryd.prog w = .ok (.string (runesBytes xs)) w := by
  obtain ⟨hl, _, h2⟩ := h
  rcases h2 with ⟨hv, hz⟩ | ⟨g, cap, cur, hv, hg, hb, _, _, hs, ht⟩
  · injection hv with h3 h4 h5
    subst h3
    obtain rfl : xs = [] := List.eq_nil_of_length_eq_zero (by omega)
    exact run_convert_runes_nil w 108 9 21 n c Tryd.underlying108 Tryd.underlying21 Tryd.underlying9
  · injection hv with h3 h4 h5
    subst h3
    have h6 := run_convert_runes (P := Tryd.prog) w 108 9 21 ⟨g, 0, none⟩ n c xs (by omega) Tryd.underlying108 Tryd.underlying21 Tryd.underlying9 (fun j hj => by
      have hadd : (⟨g, 0, none⟩ : Addr).add j = ⟨g, j, none⟩ := by unfold Addr.add; split <;> simp_all
      rw [hadd]
      have h7 := congrArg (fun z => z[j]?) ht
      simp only [List.getElem?_take, Nat.mul_one, List.getElem?_map] at h7
      rw [if_pos (by omega), List.getElem?_eq_getElem hj, Option.map_some] at h7
      simp only [World.cell?, hb]
      rw [Array.getElem?_toList] at h7
      rw [show xs.getD j 0 = xs[j] by simp [List.getD, List.getElem?_eq_getElem hj]]
      exact h7)
    rw [show xs.take n = xs by rw [← hl, List.take_length]] at h6
    exact h6

set_option maxHeartbeats 2000000 in
set_option maxRecDepth 100000 in
theorem implTextOf_any (P : List Int) (hl : P.length ≤ 1048576) (R : Option Addr) (c : Nat) (w : World) (h : Row6 w P R) (hT : Tabs w) :
    Calls Tryd.prog 30 #[.slice R P.length c] w (TxPost P w) := by
  have H := Lib.hid h
  have HT := Lib.hid hT
  obtain ⟨i0, hi0, hz0, hz1, hz2⟩ := info_parts infoI32
  clear h hT
  by_cases h24 : P.length ≤ 24
  · have h24i : ¬ 24 < (P.length : Int) := by omega
    go_enter Tryd.func30, Tryd.ntmps30
    go_wp2_with fail
    go_loopw [4, 13] (fun v i wr => ∃ k : Nat, k ≤ P.length ∧ i = .int .i64 k ∧ (∃ (R : Option Addr) (c : Nat), v = .slice R k c ∧ Hid (OwnL 21 num32 wr w.heap.size (P.take k) R k c)) ∧ Hid (AllCh (P.take k)) ∧ Hid (Below w.heap.size w wr)) (fun _ i _ => P.length - (intOf i).toNat)
    case atStart => exact ⟨0, Nat.zero_le _, rfl, ⟨none, 0, rfl, by rw [List.take_zero]; exact ⟨rfl, World.ownsRow_nil _ _ _ _⟩⟩, (fun n hn => by simp at hn), Below.refl _ _⟩
    case round =>
      obtain ⟨k, hk, rfl, ⟨R3, c3, rfl, HO⟩, hA, hB⟩ := hrel
      by_cases hlt : k < P.length
      · have hlti : (k : Int) < (P.length : Int) := by omega
        obtain ⟨b, o, n, rfl, hn, hc⟩ := (H.out.below hB.out).at_ hlt
        by_cases ho : ChI n
        · have CO := Lib.hid (fun W => implCharOk_yes n ho W)
          have hw32 := i32_same ho
          have HTK := Lib.hid (take_snoc7 hn)
          have HA2 : Hid (AllCh (P.take (k + 1))) := Lib.hid (by rw [take_snoc7 hn]; exact allCh_snoc hA.out ho)
          have hzi : w.heap.size ≤ wr.heap.size := hB.out.size
          clear hn hA ho
          go_wp2_with fail
          go_at_call 66
          refine (CO.out _).mono ?_
          rintro e w2 ⟨rfl, rfl⟩
          go_wp2_with (at_builtin; refine wpList_append_lies _ rfl _ _ _ rfl w.heap.size 21 i0 _ 1 4 Tryd.underlying108 hi0 hz0 hz1 hz2 rfl (by decide) (.slice R3 k c3) k ((P.take k).map num32) rfl (HO.out.2.alloc _) ⟨wr.heap.size, 0, none⟩ 1 1 [.int .i32 n] rfl rfl (news7 _ _ _) (by simp [Value.oneCell']) (by omega) (by unfold maxLen; omega) (by omega) (by simp; omega) _ rfl ?_; intro g4 cap w4 hown4 hgrow4 hat4 hlt4; have HS4 := Lib.hid (HO.out.snoc (m := n) hB.out hown4 hgrow4); clear hown4 hgrow4 hat4 hlt4)
          go_roundw
          case rel => exact ⟨k + 1, by omega, by go_num, ⟨_, _, rfl, by rw [HTK.out]; exact HS4.out.1⟩, HA2, HS4.out.2⟩
          case measure => simp [intOf]; omega
        · have CO := Lib.hid (fun W => implCharOk_no n ho W)
          have HN : Hid (¬ TxOk P) := Lib.hid (fun h => ho (h.2.1 n (List.mem_of_getElem? hn)))
          clear hn ho
          go_wp2_with fail
          go_at_call 66
          refine (CO.out _).mono ?_
          rintro e w2 ⟨rfl, rfl⟩
          go_wp2_with fail
          go_ret2
          exact ⟨fun h => absurd h HN.out, fun _ => rfl, hB.out⟩
      · have hk' : k = P.length := by omega
        subst hk'
        have hlti : ¬ (P.length : Int) < (P.length : Int) := by omega
        have hA' : AllCh P := by have := hA.out; rwa [List.take_length] at this
        have HO' : OwnL 21 num32 wr w.heap.size P R3 P.length c3 := by
          have := HO.out
          rwa [List.take_length] at this
        have hcv := conv_runes HO'
        have hv := valid_enc hA'
        have hs4 := runesBytes_size_le P
        have HRB : Hid (TxOk P ↔ (runesBytes P).size ≤ 24) := Lib.hid ⟨fun h => h.2.2, fun h => ⟨h24, hA', h⟩⟩
        obtain ⟨X, hX⟩ : ∃ X, runesBytes P = X := ⟨_, rfl⟩
        rw [hX] at hcv hv hs4 HRB
        have HX := Lib.hid hX
        by_cases hz : X.size ≤ 24
        · have CT := fun W (h : Tabs W) => implTextOk_short X hz W h
          rw [hv] at CT
          have CT := Lib.hid CT
          have HZ := Lib.hid hz
          clear hA hA' HO HO' hv hX hz hs4
          go_wp2_with fail
          go_at_call 65
          refine (CT.out _ (HT.out.keep hB.out)).mono ?_
          rintro e w2 ⟨rfl, hb2⟩
          have HB2 := Lib.hid (next6 hB.out hb2)
          clear hb2
          go_wp2_with fail
          go_ret2
          exact ⟨fun _ => by rw [HX.out]; rfl, fun h => absurd (HRB.out.mpr HZ.out) h, HB2.out⟩
        · have CT := Lib.hid (fun W => implTextOk_long X (by omega) (by omega) W)
          have HZ := Lib.hid hz
          clear hA hA' HO HO' hv hX hz hs4
          go_wp2_with fail
          go_at_call 65
          refine (CT.out _).mono ?_
          rintro e w2 ⟨rfl, hb2⟩
          have HB2 := Lib.hid (next6 hB.out hb2)
          clear hb2
          go_wp2_with fail
          go_ret2
          exact ⟨fun h => absurd (HRB.out.mp h) HZ.out, fun _ => rfl, HB2.out⟩
  · have h24i : 24 < (P.length : Int) := by omega
    have HN : Hid (¬ TxOk P) := Lib.hid (fun h => h24 h.1)
    clear h24
    go_enter Tryd.func30, Tryd.ntmps30
    go_wp2_with fail
    go_ret2
    exact ⟨fun h => absurd h HN.out, fun _ => rfl, Below.refl _ _⟩
end Go.Proofs.YthdnklhaagofhaaDoor
