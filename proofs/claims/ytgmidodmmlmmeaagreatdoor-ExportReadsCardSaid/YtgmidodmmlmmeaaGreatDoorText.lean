/-
  What the text functions of layer 1 and of its reference return for numbers: FormatUint at base 10, the reference's digits, and Format of both. Conditions: the table of powers of ten holds what the library lays.
-/
import Derived.Test.YtgmidodmmlmmeaaGreatDoorMab
import Derived.Lib.ItoaLen
namespace Go.Proofs.YtgmidodmmlmmeaaGreatDoor
open Go.RowKit Go.Sort
abbrev Tab (w : World) : Prop := Lib.TabIs Tryz.prog w "internal/strconv.uint64pow10" .u64 Lib.pow10Tab
theorem holds_zero0 (w:World)(T:TypeId)(nd:Nat)(hs:nd≤24):Holds (fun (b:UInt8)=>Value.int .u8 (b.toNat:Int)) (w.alloc (.cells Lib.zeros24 T)) w.heap.size 0 (Array.replicate nd (0:UInt8)):=fun j hj=>by
 have hj':j < nd:=by simpa using hj
 refine ⟨?_,World.frozen?_alloc_new _ _ _ _⟩
 rw [World.cell?_alloc_new,Lib.zeros24_at _ (by omega),getElem!_pos _ j hj]
 simp
theorem fin0 (w:World)(o:Obj)(dk:Array UInt8)(k:Nat):Below w.heap.size w ((putRow (fun (b:UInt8)=>Value.int .u8 (b.toNat:Int)) (w.alloc o) w.heap.size 0 dk).drewN k):=by
 rw [alloc_eq_grow]
 obtain ⟨os',_,e⟩:=putRow_grow_new (fun (b:UInt8)=>Value.int .u8 (b.toNat:Int)) w #[o] w.heap.size 0 dk (Nat.le_refl _)
 rw [e]
 refine ⟨rfl,rfl,rfl,?_,fun i hi=>?_⟩
 ·simp [World.drewN,grow]
 ·exact heap_grow_old w os' hi
set_option maxHeartbeats 1000000 in
set_option maxRecDepth 100000 in
theorem formatUint_any (u:Nat)(h1:u < 18446744073709551616)(w:World)(htab:Tab w) :
    Calls Tryz.prog 243 #[.int .u64 u,.int .i64 10] w fun e w'=>e=.returned (.string ⟨(Lib.decDigits u).toArray⟩)∧Below w.heap.size w w':=by
 by_cases hs:u < 100
 ·go_enter Tryz.func243,Tryz.ntmps243
  go_wp2_with fail
  refine (Tryz.internal_strconv_small u hs _).mono ?_
  rintro e w' ⟨rfl,rfl⟩
  go_wp2
  go_ret
  exact ⟨rfl,Below.refl _ _⟩
 ·have hu1:1≤u:=by omega
  have hnd20:Lib.nDigits u≤20:=Lib.nDigits_le20 u h1
  have hal:Tryz.prog.arrayLen 314=24:=by kernel_rfl
  have hsl:∀ W,(Instr.sliceAt 314 (.pointer (some ⟨w.heap.size,0,none⟩)) none (some (.int .i64 (Lib.nDigits u:Int))) none).run Tryz.prog W=.ok (.slice (some ⟨w.heap.size,0,none⟩) (Lib.nDigits u) 24) W:=fun W=>by
   rw [run_sliceAt_array_h W 314 ⟨w.heap.size,0,none⟩ (by kernel_rfl) .i64 (Lib.nDigits u:Int) (by omega) (by rw [hal];omega)]
   go_simp
  have hH0:=holds_zero0 w 314 (Lib.nDigits u) (by omega)
  have hfmt:=Tryz.internal_strconv_formatBase10 w.heap.size 0 24 u (Array.replicate (Lib.nDigits u) 0) (w.alloc (.cells Lib.zeros24 314)) hH0 (by rw [Array.size_replicate];exact Lib.lt_pow_nDigits u) h1 (by rw [Array.size_replicate];omega)
  rw [Array.size_replicate] at hfmt
  have HH0:=Lib.hid hH0
  have HTAB:=Lib.hid htab
  clear hH0 hal htab
  go_enter Tryz.func243,Tryz.ntmps243
  go_wp2_with (go_at_call 275;refine (Tryz.internal_strconv_numDigits u hu1 h1 _ (Lib.tabIs_alloc HTAB.out _)).mono ?_;rintro e w' ⟨rfl,rfl⟩)
  refine hfmt.mono ?_
  rintro e w' ⟨rfl,k,v',dk,rfl,hF⟩
  have hcv:(convert 147 9 (.slice (some ⟨w.heap.size,0,none⟩) (Lib.nDigits u) 24)).run Tryz.prog ((putRow (fun (b:UInt8)=>Value.int .u8 (b.toNat:Int)) (w.alloc (.cells Lib.zeros24 314)) w.heap.size 0 dk).drewN k)=.ok (.string ⟨(Lib.decDigits u).toArray⟩) ((putRow (fun (b:UInt8)=>Value.int .u8 (b.toNat:Int)) (w.alloc (.cells Lib.zeros24 314)) w.heap.size 0 dk).drewN k):=by
   have h:=run_convert_bytes_back (P:=Tryz.prog) ((putRow (fun (b:UInt8)=>Value.int .u8 (b.toNat:Int)) (w.alloc (.cells Lib.zeros24 314)) w.heap.size 0 dk).drewN k) 147 9 5 ⟨w.heap.size,0,none⟩ 24 (Lib.decDigits u) Tryz.underlying147 Tryz.underlying5 Tryz.underlying9 (fun j hj=>by
    rw [Lib.row_is_numeral hF j hj,Lib.add_plain,World.cell?_drewN]
    exact cell?_putRow (fun (b:UInt8)=>Value.int .u8 (b.toNat:Int)) _ w.heap.size 0 _ dk HH0.out (by rw [hF.size,Array.size_replicate]) j (by rw [hF.size];rw [Lib.decDigits_length] at hj;exact hj))
   rw [Lib.decDigits_length] at h
   exact h
  go_wp2
  go_ret
  exact ⟨rfl,fin0 w (.cells Lib.zeros24 314) dk k⟩
theorem formatUint_pub (n:Int)(k:Nat)(l:List UInt8)(h0:0≤n)(h1:n≤18446744073709551615)(w:World)(htab:Hid (Tab w))(hk:n=k)(hl:Hid (Lib.decDigits k=l)) :
    Calls Tryz.prog 192 #[.int .u64 n,.int .i64 10] w fun e w'=>e=.returned (.string ⟨l.toArray⟩)∧Below w.heap.size w w':=by
 subst hk
 have h:=formatUint_any k (by omega) w htab.out
 rw [hl.out] at h
 have H:=Lib.hid h
 clear h
 go_enter Tryz.func192,Tryz.ntmps192
 go_wp2_with fail
 refine H.out.mono ?_
 rintro e w' ⟨rfl,hb⟩
 go_wp2
 go_ret
 exact ⟨rfl,hb⟩
theorem trimRight_of (s:ByteArray)(l:List UInt8)(w:World)(hs:s.size≤9223372036854775807)(hl:Hid (Lib.trimRightB s.data.toList 48=l)) :
    Calls Tryz.prog 193 #[.string s,.string ⟨#[48]⟩] w fun e w'=>e=.returned (.string ⟨l.toArray⟩)∧w=w':=by
 have h:=Tryz.strings_TrimRight_one s 48 (by decide) w hs
 rw [hl.out] at h
 exact h.mono fun _ _ h=>⟨h.1,h.2.symm⟩
theorem ba_app (l r:List UInt8):((⟨l.toArray⟩:ByteArray) ++ (⟨r.toArray⟩:ByteArray))=⟨(l ++ r).toArray⟩:=by
 apply ByteArray.ext
 simp [ByteArray.data_append]
theorem ba_drop (l:List UInt8)(k:Nat):((⟨l.toArray⟩:ByteArray).extract k l.length).data.toList=l.drop k:=by
 rw [Lib.extract_mk,← List.length_drop,List.take_length]
theorem ba_drop_size (l:List UInt8)(k:Nat):((⟨l.toArray⟩:ByteArray).extract k l.length).size≤l.length:=by
 rw [Lib.extract_mk,Lib.size_mk,← List.length_drop,List.take_length,List.length_drop];omega
theorem trim_le (l:List UInt8)(c:UInt8):(Lib.trimRightB l c).length≤l.length:=by
 unfold Lib.trimRightB
 have:=(List.dropWhile_sublist (l:=l.reverse) (· == c)).length_le
 simpa using this
theorem tab_below {w w':World}(h:Tab w)(hb:Below w.heap.size w w'):Tab w':=by
 have hg : Tryz.prog.globalNamed "internal/strconv.uint64pow10" = some 0 := by kernel_rfl
 unfold Tab Lib.TabIs World.var? at *
 rw [hg] at h ⊢
 simp only [Option.bind_some] at h ⊢
 have hlt:0 < w.heap.size:=by
  rcases Nat.lt_or_ge 0 w.heap.size with h' | h'
  ·exact h'
  ·rw [Array.getElem?_eq_none h'] at h;simp at h
 rw [hb.block _ hlt]
 exact h
theorem dec_len (u:Nat)(h:u < 18446744073709551616):(Lib.decDigits u).length≤20:=by
 rw [Lib.decDigits_length];exact Lib.nDigits_le20 u h
end Go.Proofs.YtgmidodmmlmmeaaGreatDoor
