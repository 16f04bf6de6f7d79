/- Layer 15, ahead: frames of a link, as bytes, in plain words. Nothing of the program. -/
import Derived.Test.YtdgfofemogmmkaaNumW
import Derived.Test.YtdgfofemogmmkaaCrc
namespace Go.Proofs.Ytdgfofemogmmkaa
set_option linter.unusedVariables false

/-- A frame: Me, You, Seq, Ack, Body. -/
abbrev Fr := Int × Int × Int × Int × List Int
def isV (v : Int) : Prop := 0 ≤ v ∧ v < 4294967296
def isF (f : Fr) : Prop := isV f.1 ∧ isV f.2.1 ∧ isV f.2.2.1 ∧ isV f.2.2.2.1 ∧ ∀ z ∈ f.2.2.2.2, isByte z
def mayF (f : Fr) : Prop := f.1 ≠ 0 ∧ (if f.2.2.1 = 0 then f.2.2.2.2.length = 0 else 1 ≤ f.2.2.2.2.length ∧ f.2.2.2.2.length ≤ 64)
instance (f : Fr) : Decidable (mayF f) := by unfold mayF; infer_instance
/-- What is sealed of a frame, and its text; what is told by what was sealed. -/
def frW (f : Fr) : List Int := digs 4 f.1 ++ (digs 4 f.2.1 ++ (digs 4 f.2.2.1 ++ (digs 4 f.2.2.2.1 ++ f.2.2.2.2)))
def frT (f : Fr) : List Int := sealed (frW f)
def frV (b : List Int) : Fr := (val (b.take 4), val ((b.drop 4).take 4), val ((b.drop 8).take 4), val ((b.drop 12).take 4), b.drop 16)
def zFr : Fr := (0, 0, 0, 0, [])
/-- Check, Write, Read. -/
def frE (f : Fr) : Int := if mayF f then 0 else 150
def frB (f : Fr) : List Int := if mayF f then frT f else []
def fdE (t : List Int) : Int := if t.length < 20 then 10 else if 84 < t.length then 150 else if opE t = 0 then (if mayF (frV (opB t)) then 0 else 150) else opE t
def fdV (t : List Int) : Fr := if fdE t = 0 then frV (opB t) else zFr

theorem val4 {v : Int} (h : isV v) : val (digs 4 v) = v := val_digs _ _ h.1 (Int.ediv_eq_zero_of_lt h.1 (by rw [show (256 : Int) ^ 4 = 4294967296 by decide]; exact h.2))
theorem frW_length (f : Fr) : (frW f).length = 16 + f.2.2.2.2.length := by
  unfold frW
  simp only [List.length_append, digs_length]
  omega
theorem frT_length (f : Fr) : (frT f).length = 20 + f.2.2.2.2.length := by
  unfold frT
  rw [sealed_length, frW_length]
  omega
theorem frW_byte {f : Fr} (h : ∀ z ∈ f.2.2.2.2, isByte z) : ∀ z ∈ frW f, isByte z := by
  intro z hz
  unfold frW at hz
  simp only [List.mem_append] at hz
  rcases hz with hz | hz | hz | hz | hz
  · exact digs_byte _ _ z hz
  · exact digs_byte _ _ z hz
  · exact digs_byte _ _ z hz
  · exact digs_byte _ _ z hz
  · exact h z hz
theorem few_frame {f : Fr} (h : mayF f) : f.2.2.2.2.length ≤ 64 := by
  obtain ⟨_, h⟩ := h
  split at h <;> omega
theorem take_dig (v : Int) (r : List Int) : (digs 4 v ++ r).take 4 = digs 4 v ∧ (digs 4 v ++ r).drop 4 = r := by
  have h : (digs 4 v).length = 4 := digs_length _ _
  exact ⟨by rw [List.take_append_of_le_length (by omega), List.take_of_length_le (by omega)], by rw [List.drop_append_of_le_length (by omega), List.drop_of_length_le (by omega), List.nil_append]⟩
/-- What was sealed tells the frame. -/
theorem frV_frW {f : Fr} (h : isF f) : frV (frW f) = f := by
  obtain ⟨h1, h2, h3, h4, _⟩ := h
  obtain ⟨a, b, c, d, t⟩ := f
  dsimp only at h1 h2 h3 h4
  have k1 := take_dig a (digs 4 b ++ (digs 4 c ++ (digs 4 d ++ t)))
  have k2 := take_dig b (digs 4 c ++ (digs 4 d ++ t))
  have k3 := take_dig c (digs 4 d ++ t)
  have k4 := take_dig d t
  have e : frW (a, b, c, d, t) = digs 4 a ++ (digs 4 b ++ (digs 4 c ++ (digs 4 d ++ t))) := rfl
  unfold frV
  rw [e, k1.1, show 8 = 4 + 4 from rfl, show 12 = 4 + 4 + 4 from rfl, show 16 = 4 + 4 + 4 + 4 from rfl]
  simp only [← List.drop_drop]
  rw [k1.2, k2.1, k2.2, k3.1, k3.2, k4.1, k4.2, val4 h1, val4 h2, val4 h3, val4 h4]
theorem dig_take {b : List Int} (hb : ∀ z ∈ b, isByte z) (hl : 4 ≤ b.length) : digs 4 (val (b.take 4)) = b.take 4 ∧ isV (val (b.take 4)) := by
  have hb4 : ∀ z ∈ b.take 4, isByte z := fun z hz => hb z (List.mem_of_mem_take hz)
  have h4 : (b.take 4).length = 4 := by rw [List.length_take]; omega
  have h := digs_val _ hb4
  have hv := val_bounds _ hb4
  rw [h4] at h hv
  exact ⟨h, hv.1, by rw [show (256 : Int) ^ 4 = 4294967296 by decide] at hv; exact hv.2⟩
/-- What is told is sealed so. -/
theorem frW_frV {b : List Int} (hb : ∀ z ∈ b, isByte z) (hl : 16 ≤ b.length) : frW (frV b) = b ∧ isF (frV b) := by
  have hd : ∀ k, ∀ z ∈ b.drop k, isByte z := fun k z hz => hb z (List.mem_of_mem_drop hz)
  obtain ⟨e1, v1⟩ := dig_take hb (by omega)
  obtain ⟨e2, v2⟩ := dig_take (hd 4) (by rw [List.length_drop]; omega)
  obtain ⟨e3, v3⟩ := dig_take (hd 8) (by rw [List.length_drop]; omega)
  obtain ⟨e4, v4⟩ := dig_take (hd 12) (by rw [List.length_drop]; omega)
  refine ⟨?_, v1, v2, v3, v4, hd 16⟩
  show digs 4 (val (b.take 4)) ++ (digs 4 (val ((b.drop 4).take 4)) ++ (digs 4 (val ((b.drop 8).take 4)) ++ (digs 4 (val ((b.drop 12).take 4)) ++ b.drop 16))) = b
  rw [e1, e2, e3, e4]
  have s : ∀ k, (b.drop k).take 4 ++ b.drop (k + 4) = b.drop k := fun k => by
    have := List.take_append_drop 4 (b.drop k)
    rwa [List.drop_drop] at this
  rw [s 12, s 8, s 4]
  exact List.take_append_drop 4 b
theorem frT_open {f : Fr} (h : isF f) (hm : mayF f) : opE (frT f) = 0 ∧ opB (frT f) = frW f := by
  have hl : (frW f).length ≤ 4096 := by rw [frW_length]; have := few_frame hm; omega
  exact ⟨opE_sealed (frW_byte h.2.2.2.2) hl, opB_sealed (frW_byte h.2.2.2.2) hl⟩
/-- What is written is read. -/
theorem fr_back {f : Fr} (h : isF f) (hm : mayF f) : fdE (frT f) = 0 ∧ fdV (frT f) = f := by
  obtain ⟨e, b⟩ := frT_open h hm
  have hl := frT_length f
  have hf := few_frame hm
  have h0 : fdE (frT f) = 0 := by
    unfold fdE
    rw [if_neg (by omega), if_neg (by omega), if_pos e, b, frV_frW h, if_pos hm]
  refine ⟨h0, ?_⟩
  unfold fdV
  rw [if_pos h0, b, frV_frW h]
theorem fd_zero {t : List Int} (h : fdE t = 0) : 20 ≤ t.length ∧ t.length ≤ 84 ∧ opE t = 0 ∧ mayF (frV (opB t)) := by
  unfold fdE at h
  split at h
  · exact absurd h (by decide)
  · split at h
    · exact absurd h (by decide)
    · split at h
      · split at h
        · rename_i h1 h2 h3 h4
          exact ⟨by omega, by omega, h3, h4⟩
        · exact absurd h (by decide)
      · rename_i h1 h2 h3
        exact absurd h h3
/-- What is read is written so. -/
theorem fr_anew {t : List Int} (hb : ∀ z ∈ t, isByte z) (h : fdE t = 0) : isF (fdV t) ∧ mayF (fdV t) ∧ frT (fdV t) = t := by
  obtain ⟨h1, h2, h3, h4⟩ := fd_zero h
  have e : opB t = t.take (t.length - 4) := if_pos h3
  have hl : 16 ≤ (opB t).length := by rw [e, List.length_take]; omega
  have hob : ∀ z ∈ opB t, isByte z := fun z hz => hb z (by rw [e] at hz; exact List.mem_of_mem_take hz)
  obtain ⟨w1, w2⟩ := frW_frV hob hl
  unfold fdV
  rw [if_pos h]
  exact ⟨w2, h4, by unfold frT; rw [w1]; exact sealed_opB hb h3⟩
/-- A frame's text, some of whose bits are turned within 32 in a row, is none. -/
theorem fr_burst {f : Fr} {t : List Int} {at' m : Nat} (h : isF f) (hm : mayF f) (ht : Turned (frT f) t at' m) (hw : isW m) : fdE t = 20 ↔ m ≠ 0 := by
  have hl := frT_length f
  have hf := few_frame hm
  have hx := ht.tells (frW_byte h.2.2.2.2) (by rw [frW_length]; omega) hw
  have hlen : t.length = (frT f).length := ht.1
  unfold fdE
  rw [if_neg (by omega), if_neg (by omega), hx]
  by_cases h0 : m = 0
  · rw [if_pos h0, if_pos rfl]
    constructor
    · intro h1; split at h1 <;> exact absurd h1 (by decide)
    · intro h1; exact absurd h0 h1
  · rw [if_neg h0, if_neg (by decide)]
    exact ⟨fun _ => h0, fun _ => rfl⟩
end Go.Proofs.Ytdgfofemogmmkaa
