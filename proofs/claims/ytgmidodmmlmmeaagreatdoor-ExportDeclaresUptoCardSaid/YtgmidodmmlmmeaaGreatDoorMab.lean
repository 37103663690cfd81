/-
  Contracts and plain facts of the layers below; conditions as each theorem states them.
-/
import Derived.Test.YtgmidodmmlmmeaaGreatDoorMaa
import Derived.Lib.ItoaLen
set_option maxHeartbeats 1000000
set_option maxRecDepth 100000
namespace Go.Proofs.YtgmidodmmlmmeaaGreatDoor
open Go.RowKit Go.Sort _root_.Go.Proofs.Tryz
abbrev Tab (w : World) : Prop := Lib.TabIs Tryz.prog w "internal/strconv.uint64pow10" .u64 Lib.pow10Tab
theorem yiH (w:World)(T:TypeId)(nd:Nat)(hs:nd<=24):Holds (fun (b:UInt8)=>Value.int .u8 (b.toNat:Int)) (w.alloc (.cells Lib.zeros24 T)) w.heap.size 0 (Array.replicate nd (0:UInt8)):=fun j hj=>by
 have hj':j<nd:=by simpa using hj
 refine⟨?_,World.frozen?_alloc_new _ _ _ _⟩;rw[World.cell?_alloc_new,Lib.zeros24_at _ (by omega),getElem!_pos _ j hj];simp
theorem fin0 (w:World)(o:Obj)(dk:Array UInt8)(k:Nat):Below w.heap.size w ((putRow (fun (b:UInt8)=>Value.int .u8 (b.toNat:Int)) (w.alloc o) w.heap.size 0 dk).drewN k):=by
 rw[alloc_eq_grow];obtain⟨os',_,e⟩:=putRow_grow_new (fun (b:UInt8)=>Value.int .u8 (b.toNat:Int)) w #[o] w.heap.size 0 dk (Nat.le_refl _);rw[e];refine⟨rfl,rfl,rfl,?_,fun i hi=>?_⟩
 ·simp[World.drewN,grow]
 ·exact heap_grow_old w os' hi
theorem yfJ (u:Nat)(h1:u<18446744073709551616)(w:World)(htab:Tab w) :
    Calls Tryz.prog 243 #[.int .u64 u,.int .i64 10] w fun e w'=>e=.returned (.string ⟨(Lib.decDigits u).toArray⟩)/\Below w.heap.size w w':=by
 by_cases hs:u<100
 ·go_enter func243,ntmps243
  go_wp2_with fail
  refine(Tryz.internal_strconv_small u hs _).mono ?_;rintro e w' ⟨rfl,rfl⟩;go_wp2;go_ret;exact⟨rfl,Below.refl _ _⟩
 ·have hu1:1<=u:=by omega
  have hnd20:Lib.nDigits u<=20:=Lib.nDigits_le20 u h1;have hal:Tryz.prog.arrayLen 314=24:=by kernel_rfl
  have hsl:∀ W,(Instr.sliceAt 314 (.pointer (some ⟨w.heap.size,0,none⟩)) none (some (.int .i64 (Lib.nDigits u:Int))) none).run Tryz.prog W=.ok (.slice (some ⟨w.heap.size,0,none⟩) (Lib.nDigits u) 24) W:=fun W=>by
   rw[run_sliceAt_array_h W 314 ⟨w.heap.size,0,none⟩ (by kernel_rfl) .i64 (Lib.nDigits u:Int) (by omega) (by rw[hal];omega)];go_simp
  have hH0:=yiH w 314 (Lib.nDigits u) (by omega);have hfmt:=Tryz.internal_strconv_formatBase10 w.heap.size 0 24 u (Array.replicate (Lib.nDigits u) 0) (w.alloc (.cells Lib.zeros24 314)) hH0 (by rw[Array.size_replicate];exact Lib.lt_pow_nDigits u) h1 (by rw[Array.size_replicate];omega);rw[Array.size_replicate] at hfmt;have HH0:=Lib.hid hH0;have HTAB:=Lib.hid htab;clear hH0 hal htab;go_enter func243,ntmps243
  go_wp2_with (go_at_call 275;refine(Tryz.internal_strconv_numDigits u hu1 h1 _ (Lib.tabIs_alloc HTAB.out _)).mono ?_;rintro e w' ⟨rfl,rfl⟩)
  refine hfmt.mono ?_;rintro e w' ⟨rfl,k,v',dk,rfl,hF⟩
  have hcv:(convert 147 9 (.slice (some ⟨w.heap.size,0,none⟩) (Lib.nDigits u) 24)).run Tryz.prog ((putRow (fun (b:UInt8)=>Value.int .u8 (b.toNat:Int)) (w.alloc (.cells Lib.zeros24 314)) w.heap.size 0 dk).drewN k)=.ok (.string ⟨(Lib.decDigits u).toArray⟩) ((putRow (fun (b:UInt8)=>Value.int .u8 (b.toNat:Int)) (w.alloc (.cells Lib.zeros24 314)) w.heap.size 0 dk).drewN k):=by
   have h:=run_convert_bytes_back (P:=Tryz.prog) ((putRow (fun (b:UInt8)=>Value.int .u8 (b.toNat:Int)) (w.alloc (.cells Lib.zeros24 314)) w.heap.size 0 dk).drewN k) 147 9 5 ⟨w.heap.size,0,none⟩ 24 (Lib.decDigits u) underlying147 underlying5 underlying9 (fun j hj=>by
    rw[Lib.row_is_numeral hF j hj,Lib.add_plain,World.cell?_drewN]
    exact cell?_putRow (fun (b:UInt8)=>Value.int .u8 (b.toNat:Int)) _ w.heap.size 0 _ dk HH0.out (by rw[hF.size,Array.size_replicate]) j (by rw[hF.size];rw[Lib.decDigits_length] at hj;exact hj))
   rw[Lib.decDigits_length] at h;exact h
  go_wp2;go_ret;exact⟨rfl,fin0 w (.cells Lib.zeros24 314) dk k⟩
theorem yav (n:Int)(k:Nat)(l:List UInt8)(h0:0<=n)(h1:n<=18446744073709551615)(w:World)(htab:Hid (Tab w))(hk:n=k)(hl:Hid (Lib.decDigits k=l)) :
    Calls Tryz.prog 192 #[.int .u64 n,.int .i64 10] w fun e w'=>e=.returned (.string ⟨l.toArray⟩)/\Below w.heap.size w w':=by
 subst hk;have h:=yfJ k (by omega) w htab.out;rw[hl.out] at h;have H:=Lib.hid h;clear h;go_enter func192,ntmps192;go_wp2_with fail
 refine H.out.mono ?_;rintro e w' ⟨rfl,hb⟩;go_wp2;go_ret;exact⟨rfl,hb⟩
theorem yd4 (s:ByteArray)(l:List UInt8)(w:World)(hs:s.size<=9223372036854775807)(hl:Hid (Lib.trimRightB s.data.toList 48=l)) :
    Calls Tryz.prog 193 #[.string s,.string ⟨#[48]⟩] w fun e w'=>e=.returned (.string ⟨l.toArray⟩)/\w=w':=by
 have h:=Tryz.strings_TrimRight_one s 48 (by decide) w hs;rw[hl.out] at h;exact h.mono fun _ _ h=>⟨h.1,h.2.symm⟩
theorem ydk (l r:List UInt8):((⟨l.toArray⟩:ByteArray)++(⟨r.toArray⟩:ByteArray))=⟨(l++r).toArray⟩:=by
 apply ByteArray.ext
 simp[ByteArray.data_append]
theorem yqQ (l:List UInt8)(k:Nat):((⟨l.toArray⟩:ByteArray).extract k l.length).data.toList=l.drop k:=by
 rw[Lib.extract_mk,<- List.length_drop,List.take_length]
theorem yd5 (l:List UInt8)(k:Nat):((⟨l.toArray⟩:ByteArray).extract k l.length).size<=l.length:=by
 rw[Lib.extract_mk,Lib.size_mk,<- List.length_drop,List.take_length,List.length_drop];omega
theorem yiI (l:List UInt8)(c:UInt8):(Lib.trimRightB l c).length<=l.length:=by
 unfold Lib.trimRightB;have:=(List.dropWhile_sublist (l:=l.reverse) (· == c)).length_le
 simpa using this
theorem yt {w w':World}(h:Tab w)(hb:Below w.heap.size w w'):Tab w':=by
 have hg : Tryz.prog.globalNamed "internal/strconv.uint64pow10" = some 0 := by kernel_rfl
 unfold Tab Lib.TabIs World.var? at *;rw[hg] at h |-;simp only[Option.bind_some] at h |-
 have hlt:0<w.heap.size:=by
  rcases Nat.lt_or_ge 0 w.heap.size with h' | h'
  ·exact h'
  ·rw[Array.getElem?_eq_none h'] at h;simp at h
 rw[hb.block _ hlt];exact h
theorem yc9 (u:Nat)(h:u<18446744073709551616):(Lib.decDigits u).length<=20:=by
 rw[Lib.decDigits_length];exact Lib.nDigits_le20 u h
def yJ (n:Int):List UInt8 :=
 (if n<0 then [45] else [])++Lib.decDigits (n.natAbs / 1000)++(if n.natAbs % 1000=0 then [] else 46::Lib.trimRightB ((Lib.decDigits (1000+n.natAbs % 1000)).drop 1) 48)
theorem yfU (n:Int)(w:World)(h0:-9223372036854775808<=n)(h1:n<=9223372036854775807)(htab:Tab w) :
    Calls Tryz.prog 136 #[.int .i64 n] w fun e w'=>e=.returned (.string ⟨(yJ n).toArray⟩)/\Below w.heap.size w w':=by
 obtain⟨m,hm⟩:∃ m,n.natAbs=m:=⟨_,rfl⟩
 have hm1:m<=9223372036854775808:=by omega
 obtain⟨l1,e1⟩:∃ l,Lib.decDigits (m / 1000)=l:=⟨_,rfl⟩
 obtain⟨l2,e2⟩:∃ l,Lib.decDigits (1000+m % 1000)=l:=⟨_,rfl⟩
 obtain⟨l3,e3⟩:∃ l,Lib.trimRightB (l2.drop 1) 48=l:=⟨_,rfl⟩
 have g1:l1.length<=20:=by rw[<- e1];exact yc9 _ (by omega)
 have g2:l2.length<=20:=by rw[<- e2];exact yc9 _ (by omega)
 have g3:1<=l2.length:=by rw[<- e2,Lib.decDigits_length];exact Lib.nDigits_pos _
 have HF:Hid (yJ n=(if n<0 then [45] else [])++l1++(if m % 1000=0 then [] else 46::l3)):=Lib.hid (by rw[yJ,hm,e1,e2,e3]);have HM:=Lib.hid hm;have HT:=Lib.hid htab;have E1:=Lib.hid e1;have E2:=Lib.hid e2;clear hm htab e1 e2;have g4:l3.length<=20:=by rw[<- e3];have:=yiI (l2.drop 1) 48;rw[List.length_drop] at this;omega
 have E3:Hid (Lib.trimRightB ((⟨l2.toArray⟩:ByteArray).extract 1 l2.length).data.toList 48=l3):=Lib.hid (by rw[yqQ];exact e3);clear e3
 by_cases hn:n<0 <;> by_cases hr:m % 1000=0
 ·go_enter func136,ntmps136
  go_wp2_with (go_at_call 191;refine(ybL _ m _ (by omega) (by omega) HM).mono ?_;rintro e w' ⟨rfl,rfl⟩)
  refine(yav _ _ l1 (by omega) (by omega) _ HT (by simp) E1).mono ?_;rintro e w1 ⟨rfl,hb⟩;go_wp2;go_ret;refine⟨?_,hb⟩
  show Ending.returned (Value.string ((⟨[45].toArray⟩:ByteArray)++⟨l1.toArray⟩))=_
  rw[HF.out,if_pos hn,if_pos hr,ydk,List.append_nil]
 ·go_enter func136,ntmps136
  go_wp2_with (go_at_call 191;refine(ybL _ m _ (by omega) (by omega) HM).mono ?_;rintro e w' ⟨rfl,rfl⟩)
  refine(yav _ _ l1 (by omega) (by omega) _ HT (by simp) E1).mono ?_;rintro e w1 ⟨rfl,hb⟩;go_wp2_with fail
  refine(yav _ _ l2 (by omega) (by omega) _ (Lib.hid (yt HT.out hb)) (by simp) E2).mono ?_;rintro e w2 ⟨rfl,hb2⟩;go_wp2_with fail
  refine(yd4 _ l3 _ (by have:=yd5 l2 1;omega) E3).mono ?_;rintro e w' ⟨rfl,rfl⟩;go_wp2;go_ret;refine⟨?_,hb.trans (hb2.mono hb.size)⟩
  show Ending.returned (Value.string (((⟨[45].toArray⟩:ByteArray)++⟨l1.toArray⟩)++⟨[46].toArray⟩++⟨l3.toArray⟩))=_
  rw[HF.out,if_pos hn,if_neg hr,ydk,ydk,ydk,List.append_assoc ([45]++l1)];rfl
 ·go_enter func136,ntmps136
  go_wp2_with (go_at_call 191;refine(ybL _ m _ (by omega) (by omega) HM).mono ?_;rintro e w' ⟨rfl,rfl⟩)
  refine(yav _ _ l1 (by omega) (by omega) _ HT (by simp) E1).mono ?_;rintro e w1 ⟨rfl,hb⟩;go_wp2;go_ret;refine⟨?_,hb⟩
  show Ending.returned (Value.string ⟨l1.toArray⟩)=_
  rw[HF.out,if_neg (by omega),if_pos hr,List.append_nil,List.nil_append]
 ·go_enter func136,ntmps136
  go_wp2_with (go_at_call 191;refine(ybL _ m _ (by omega) (by omega) HM).mono ?_;rintro e w' ⟨rfl,rfl⟩)
  refine(yav _ _ l1 (by omega) (by omega) _ HT (by simp) E1).mono ?_;rintro e w1 ⟨rfl,hb⟩;go_wp2_with fail
  refine(yav _ _ l2 (by omega) (by omega) _ (Lib.hid (yt HT.out hb)) (by simp) E2).mono ?_;rintro e w2 ⟨rfl,hb2⟩;go_wp2_with fail
  refine(yd4 _ l3 _ (by have:=yd5 l2 1;omega) E3).mono ?_;rintro e w' ⟨rfl,rfl⟩;go_wp2;go_ret;refine⟨?_,hb.trans (hb2.mono hb.size)⟩
  show Ending.returned (Value.string ((⟨l1.toArray⟩:ByteArray)++⟨[46].toArray⟩++⟨l3.toArray⟩))=_
  rw[HF.out,if_neg (by omega),if_neg hr,ydk,ydk,List.nil_append,List.append_assoc l1];rfl
end Go.Proofs.YtgmidodmmlmmeaaGreatDoor
namespace Go.Proofs.YtgmidodmmlmmeaaGreatDoor
theorem yeh (l r:List UInt8):yad (l++r)=yad l*10 ^ r.length+yad r:=by
 have key:∀ (r:List UInt8) (v:Nat),r.foldl (fun v c=>10*v+(c.toNat-48)) v=v*10 ^ r.length+yad r:=by
  intro r
  induction r with
  | nil=>intro v;simp[yad]
  | cons c r ih =>
   intro v
   have e:yad (c::r)=(10*0+(c.toNat-48))*10 ^ r.length+yad r:=by
    show r.foldl _ (10*0+(c.toNat-48))=_
    exact ih _
   rw[List.foldl_cons,ih,e,List.length_cons,Nat.pow_succ];simp only[Nat.add_mul,Nat.mul_comm 10 v,Nat.mul_assoc,Nat.mul_comm 10 (10 ^ r.length),Nat.mul_zero,Nat.zero_add];omega
 unfold yad;rw[List.foldl_append,key];rfl
theorem ybX (c:UInt8)(r:List UInt8):yad (c::r)=(c.toNat-48)*10 ^ r.length+yad r:=by
 have:=yeh [c] r
 simpa [yad] using this
theorem ydl {c:UInt8}(h:yL c=true):48<=c.toNat/\c.toNat<=57:=by simpa [yL] using h
theorem yjj {c:UInt8}(h:48<=c.toNat/\c.toNat<=57):yL c=true:=by simpa [yL] using h
theorem ykF {k:Nat}(h:k<10):(UInt8.ofNat (48+k)).toNat=48+k:=by
 rw[UInt8.toNat_ofNat'];omega
theorem ynL {c:UInt8}{r:List UInt8}(hc:yL c=true)(h48:c≠48):10 ^ r.length<=yad (c::r):=by
 rw[ybX];have h:=ydl hc;have:c.toNat≠48:=fun e=>h48 (UInt8.toNat_inj.1 e)
 have h2:1*10 ^ r.length<=(c.toNat-48)*10 ^ r.length:=Nat.mul_le_mul_right _ (by omega);omega
theorem yjk (w:List UInt8)(ha:w.all yL=true)(hne:w≠[])(h0:1<w.length->w.head?≠some 48):Lib.decDigits (yad w)=w:=by
 induction hn:w.length generalizing w with
 | zero=>exact absurd (List.length_eq_zero_iff.1 hn) hne
 | succ k ih =>
  obtain⟨l,c,rfl⟩:∃ l c,w=l++[c]:=⟨w.dropLast,w.getLast hne,(List.dropLast_concat_getLast hne).symm⟩
  rw[List.all_append,Bool.and_eq_true] at ha;have hc:yL c=true:=by simpa using ha.2
  have hr:=ydl hc;have hl:l.length=k:=by simpa using hn
  rw[ycy]
  cases l with
  | nil =>
   rw[ynG,Lib.decDigits,dif_pos (by omega)];simp only[List.nil_append,List.cons.injEq,and_true];exact UInt8.toNat_inj.1 (by rw[ykF (by omega)];omega)
  | cons a l =>
   have ha1:yL a=true:=by simp only[List.all_cons,Bool.and_eq_true] at ha;exact ha.1.1
   have h48:a≠48:=by
    intro e;exact h0 (by simp) (by rw[e];rfl)
   have hpos:=ynL (r:=l) ha1 h48;have h1:1<=10 ^ l.length:=Nat.one_le_pow _ _ (by decide);rw[Lib.decDigits,dif_neg (by omega)];rw[show (10*yad (a::l)+(c.toNat-48)) / 10=yad (a::l) by omega,show (10*yad (a::l)+(c.toNat-48)) % 10=c.toNat-48 by omega];rw[ih (a::l) ha.1 (by simp) (fun _=>by simpa using h48) hl];have:UInt8.ofNat (48+(c.toNat-48))=c:=UInt8.toNat_inj.1 (by rw[ykF (by omega)];omega);rw[this]
theorem yei (u:Nat):yad (Lib.decDigits u)=u/\(Lib.decDigits u).all yL=true/\Lib.decDigits u≠[]/\(1<(Lib.decDigits u).length->(Lib.decDigits u).head?≠some 48):=by
 induction u using Nat.strongRecOn with
 | _ u ih =>
  by_cases h:u<10
  ·rw[Lib.decDigits,dif_pos h]
   refine⟨?_,?_,by simp,by simp⟩
   ·rw[ybX,ykF h];simp[yad]
   ·simp only[List.all_cons,List.all_nil,Bool.and_true]
    exact yjj (by rw[ykF h];omega)
  ·have hi:=ih (u / 10) (by omega)
   rw[Lib.decDigits,dif_neg h];refine⟨?_,?_,by simp,fun _=>?_⟩
   ·rw[ycy,hi.1,ykF (by omega)];omega
   ·rw[List.all_append,hi.2.1]
    simp only[List.all_cons,List.all_nil,Bool.and_true,Bool.true_and];exact yjj (by rw[ykF (by omega)];omega)
   ·obtain⟨a,l,hal⟩:∃ a l,Lib.decDigits (u / 10)=a::l:=by
      cases hd:Lib.decDigits (u / 10) with
      | nil=>exact absurd hd hi.2.2.1
      | cons a l=>exact⟨a,l,rfl⟩
    rw[hal] at hi |-;simp only[List.cons_append,List.head?_cons,ne_eq,Option.some.injEq];intro e;subst e
    cases l with
    | nil=>have:=hi.1;rw[ybX] at this;simp[yad] at this;omega
    | cons b l=>exact hi.2.2.2 (by simp) rfl
theorem ykG (k:Nat):yad (List.replicate k 48)=0:=by
 induction k with
 | zero=>rfl
 | succ k ih=>rw[List.replicate_succ,ybX,ih];simp
theorem ygC (d:List UInt8):yad (d++List.replicate (3-d.length) 48)=pad (yad d) d.length 3:=by
 rw[yeh,ykG,List.length_replicate];rfl
theorem ynM (d:List UInt8)(k:Nat)(hl:d.getLast?≠some 48):Lib.trimRightB (d++List.replicate k 48) 48=d:=by
 rw[Lib.trimRightB_take (d++List.replicate k 48) 48 d.length (by simp) ?_ ?_]
 ·simp
 ·intro j b hj hb
  rw[List.getElem?_append_right hj,List.getElem?_replicate] at hb
  split at hb
  ·exact(Option.some.inj hb).symm
  ·cases hb
 ·intro b h0 hb hbc
  subst hbc;rw[List.getElem?_append_left (by omega)] at hb;rw[List.getLast?_eq_getElem?] at hl;exact hl hb
theorem ynN (d:List UInt8)(ha:d.all yL=true)(h1:1<=d.length)(hl:d.getLast?≠some 48):1<=yad d:=by
 obtain⟨l,c,rfl⟩:∃ l c,d=l++[c]:=⟨d.dropLast,d.getLast (by intro h;rw[h] at h1;simp at h1),(List.dropLast_concat_getLast _).symm⟩
 rw[List.all_append,Bool.and_eq_true] at ha;have hr:=ydl (c:=c) (by simpa using ha.2);have:c.toNat≠48:=fun e=>hl (by rw[List.getLast?_append];simp;exact UInt8.toNat_inj.1 e)
 rw[ycy];omega
theorem ylh (d:List UInt8)(ha:d.all yL=true)(h1:1<=d.length)(h3:d.length<=3)(hl:d.getLast?≠some 48) :
    1<=pad (yad d) d.length 3/\pad (yad d) d.length 3<=999/\Lib.trimRightB ((Lib.decDigits (1000+pad (yad d) d.length 3)).drop 1) 48=d:=by
 have hz:=ygC d
 have hall:(d++List.replicate (3-d.length) 48).all yL=true:=by
  rw[List.all_append,ha];simp only[List.all_replicate,Bool.true_and]
  split <;> rfl
 have hlen:(d++List.replicate (3-d.length) 48).length=3:=by simp;omega
 have hlt:=ygB _ hall;rw[hlen,hz] at hlt;refine⟨?_,by omega,?_⟩
 ·have:=ynN d ha h1 hl
  unfold pad;have h2:1*1<=yad d*10 ^ (3-d.length):=Nat.mul_le_mul this (Nat.one_le_pow _ _ (by decide));omega
 ·have e:1000+pad (yad d) d.length 3=yad (49::(d++List.replicate (3-d.length) 48)):=by
    rw[ybX,hlen,hz];rfl
  rw[e,yjk _ (by rw[List.all_cons,hall];rfl) (by simp) (fun _=>by simp)];exact ynM d _ hl
theorem yfV (l:List UInt8):l=Lib.trimRightB l 48++List.replicate (l.length-(Lib.trimRightB l 48).length) 48/\(Lib.trimRightB l 48).getLast?≠some 48:=by
 have h:=List.takeWhile_append_dropWhile (p:=fun b:UInt8=>b==48) (l:=l.reverse)
 have h2:l=(l.reverse.dropWhile fun b:UInt8=>b==48).reverse++(l.reverse.takeWhile fun b:UInt8=>b==48).reverse:=by
  rw[<- List.reverse_append,h,List.reverse_reverse]
 have hall:∀ b∈(l.reverse.takeWhile fun b:UInt8=>b==48).reverse,b=48:=by
  intro b hb;have:=List.all_takeWhile (p:=fun b:UInt8=>b==48) (l:=l.reverse);rw[List.all_eq_true] at this;exact eq_of_beq (this b (by simpa using hb))
 have hlen:=congrArg List.length h2;rw[List.length_append] at hlen
 constructor
 ·unfold Lib.trimRightB
  rw[show l.length-(l.reverse.dropWhile fun b:UInt8=>b==48).reverse.length=(l.reverse.takeWhile fun b:UInt8=>b==48).reverse.length by omega];rw[<- List.eq_replicate_of_mem hall];exact h2
 ·unfold Lib.trimRightB
  rw[List.getLast?_reverse];intro h3;have:=List.head?_dropWhile_not (fun b:UInt8=>b==48) l.reverse;rw[h3] at this;simp at this
theorem yli (r:Nat)(h1:1<=r)(h2:r<=999):y9 (46::Lib.trimRightB ((Lib.decDigits (1000+r)).drop 1) 48)=some r:=by
 have hs:=yei (1000+r);have hl:(Lib.decDigits (1000+r)).length=4:=by rw[Lib.decDigits_length];exact Lib.nDigits_unique 3 _ (by omega) (by omega)
 obtain⟨c,x,hcx⟩:∃ c x,Lib.decDigits (1000+r)=c::x:=by
  cases h:Lib.decDigits (1000+r) with
  | nil=>exact absurd h hs.2.2.1
  | cons c x=>exact⟨c,x,rfl⟩
 rw[hcx] at hs hl |-;have hx3:x.length=3:=by simpa using hl
 have hxa:x.all yL=true:=by have:=hs.2.1;rw[List.all_cons,Bool.and_eq_true] at this;exact this.2
 have hxv:=ygB x hxa;have hv:=hs.1;rw[ybX] at hv;rw[hx3] at hv hxv;have hvx:yad x=r:=by omega
 show y9 (46::Lib.trimRightB x 48)=some r
 have ht:=yfV x;obtain⟨d,hd⟩:∃ d,Lib.trimRightB x 48=d:=⟨_,rfl⟩
 rw[hd] at ht |-;have hdl:d.length<=3:=by rw[<- hd,<- hx3];exact yiI x 48
 rw[hx3] at ht;have hpad:=ygC d;rw[<- ht.1,hvx] at hpad
 have hda:d.all yL=true:=by
  rw[ht.1,List.all_append,Bool.and_eq_true] at hxa;exact hxa.1
 have hd1:1<=d.length:=by
  cases d with
  | nil=>simp[pad,yad] at hpad;omega
  | cons a d=>simp
 rw[hpad];exact if_pos ⟨rfl,hd1,hdl,hda,ht.2⟩
theorem ygD {t:List UInt8}(h:(yD t).length≠0):yD t≠[]:=fun e=>h (by rw[e];rfl)
theorem yeG {t:List UInt8}(h:(yD t).length≠0):(yD t).head?=t.head?:=by
 have e:=yaC t;rw[e,List.head?_take,if_neg (by omega)]
theorem yjl {t:List UInt8}(h0:(yD t).length≠0)(h1:¬ (1<(yD t).length/\t.head?=some 48)):Lib.decDigits (yad (yD t))=yD t :=
 yjk (yD t) (List.all_eq_true.2 (yeg t)) (ygD h0) (fun hl h=>h1 ⟨hl,by rw[<- yeG h0];exact h⟩)
theorem yiJ {r:List UInt8}{p:Nat}(h:y9 r=some p):(r=[]/\p=0)\/∃ d,r=46::d/\1<=p/\p<=999/\Lib.trimRightB ((Lib.decDigits (1000+p)).drop 1) 48=d:=by
 cases r with
 | nil=>exact Or.inl ⟨rfl,(Option.some.inj h).symm⟩
 | cons c d =>
  by_cases hc:c=46/\1<=d.length/\d.length<=3/\d.all yL=true/\d.getLast?≠some 48
  ·have e:y9 (c::d)=some (pad (yad d) d.length 3):=if_pos hc
   rw[e] at h;obtain rfl:=Option.some.inj h;obtain⟨rfl,g1,g2,g3,g4⟩:=hc;have:=ylh d g3 g1 g2 g4;exact Or.inr ⟨d,rfl,this.1,this.2.1,this.2.2⟩
  ·have e:y9 (c::d)=none:=if_neg hc
   rw[e] at h;cases h
theorem yeH (n:Int)(V p:Nat)(hm:n.natAbs=V*1000+p)(hp:p<=999):yJ n=(if n<0 then [45] else [])++Lib.decDigits V++(if p=0 then [] else 46::Lib.trimRightB ((Lib.decDigits (1000+p)).drop 1) 48):=by
 unfold yJ;rw[hm,show (V*1000+p) / 1000=V by omega,show (V*1000+p) % 1000=p by omega]
theorem yfK {t:List UInt8}(h0:(yD t).length≠0)(h1:¬ (1<(yD t).length/\t.head?=some 48))(hv:yad (yD t)=0):yD t=[48]:=by
 have h:=yjl h0 h1;rw[hv] at h;rw[<- h,Lib.decDigits,dif_pos (by omega)];rfl
theorem yeI (neg:Bool)(t:List UInt8):yaD neg t=ynI\/yaD neg t=ysE \/
    ∃ n:Int,yaD neg t=.tuple #[.int .i64 n,.int .i64 0]/\-268435456<=n/\n<=268435456/\yJ n=(if neg then [45] else [])++t:=by
 by_cases hb:(yD t).length=0\/(1<(yD t).length/\t.head?=some 48)\/(neg=true/\t=[48])
 ·exact Or.inl (ybv hb)
 ·cases hf:y9 (t.drop (yD t).length) with
  | none=>exact Or.inl (yc8 hf)
  | some p =>
   have e:=ybg hb hf
   by_cases ho:268435456<yad (yD t)*1000+p
   ·rw[if_pos ho] at e
    exact Or.inr (Or.inl e)
   ·rw[if_neg ho] at e
    have h0:(yD t).length≠0:=fun h=>hb (Or.inl h)
    have h1:¬ (1<(yD t).length/\t.head?=some 48):=fun h=>hb (Or.inr (Or.inl h))
    have hdec:=yjl h0 h1
    have hsplit:yD t++t.drop (yD t).length=t:=by
     have:=yaC t;rw[this,List.length_take,Nat.min_eq_left (yce t)];exact List.take_append_drop _ _
    have hfr:=yiJ hf
    have hp:p<=999:=by
     rcases hfr with ⟨_,rfl⟩ | ⟨d,_,_,h,_⟩
     ·omega
     ·exact h
    have htail:(if p=0 then [] else 46::Lib.trimRightB ((Lib.decDigits (1000+p)).drop 1) 48)=t.drop (yD t).length:=by
     rcases hfr with ⟨hr,rfl⟩ | ⟨d,hr,hp1,_,hd⟩
     ·rw[if_pos rfl,hr]
     ·rw[if_neg (by omega),hd,hr]
    refine Or.inr (Or.inr ?_)
    cases neg with
    | false =>
     refine⟨_,e,?_,?_,?_⟩
     ·simp only[Bool.false_eq_true,if_false];omega
     ·simp only[Bool.false_eq_true,if_false];omega
     ·simp only[Bool.false_eq_true,if_false,List.nil_append]
      rw[yeH _ (yad (yD t)) p (by omega) hp,if_neg (by omega),hdec,htail,List.nil_append];exact hsplit
    | true =>
     refine⟨_,e,?_,?_,?_⟩
     ·simp only[if_true];omega
     ·simp only[if_true];omega
     ·simp only[if_true]
      have hpos:0<yad (yD t)*1000+p:=by
       rcases Nat.eq_zero_or_pos (yad (yD t)*1000+p) with hz | hz
       ·have hv:yad (yD t)=0:=by omega
        have hp0:p=0:=by omega
        have hw:=yfK h0 h1 hv
        rcases hfr with ⟨hr,_⟩ | ⟨d,_,hp1,_,_⟩
        ·rw[hr,List.append_nil,hw] at hsplit
         exact absurd (Or.inr (Or.inr ⟨rfl,hsplit.symm⟩)) hb
        ·omega
       ·exact hz
      rw[yeH _ (yad (yD t)) p (by omega) hp,if_pos (by omega),hdec,htail,List.append_assoc,hsplit]
theorem yeJ (l:List UInt8):yas l=ynI\/yas l=ysE \/
    ∃ n:Int,yas l=.tuple #[.int .i64 n,.int .i64 0]/\-268435456<=n/\n<=268435456/\yJ n=l:=by
 unfold yas
 by_cases h:l.head?=some 45
 ·obtain⟨t,rfl⟩:∃ t,l=45::t:=by
    cases l with
    | nil=>cases h
    | cons a t=>obtain rfl:=Option.some.inj h;exact⟨t,rfl⟩
  rw[if_pos h]
  simpa using yeI true t
 ·rw[if_neg h]
  simpa using yeI false l
end Go.Proofs.YtgmidodmmlmmeaaGreatDoor
namespace Go.Proofs.YtgmidodmmlmmeaaGreatDoor.lex
open Go.RowKit
theorem ynO (w f:List UInt8)(hw:w.all yL=true)(hf:f=[]\/f.head?=some 46):yD (w++f)=w:=by
 have h:=yeA (w++f) w.length (by simp) (by rw[List.take_left'];exact hw;rfl) (fun c hc=>by
  rw[List.getElem?_append_right (Nat.le_refl _),Nat.sub_self] at hc
  rcases hf with rfl | hf
  ·cases hc
  ·rw[<- List.head?_eq_getElem?,hf] at hc
   rw[<- Option.some.inj hc];rfl)
 rw[h,List.take_left' rfl]
theorem ylj (n:Int):yas (yJ n)=if 268435456<n.natAbs then ysE else .tuple #[.int .i64 n,.int .i64 0]:=by
 obtain⟨V,hV⟩:∃ V,n.natAbs / 1000=V:=⟨_,rfl⟩
 obtain⟨p,hp⟩:∃ p,n.natAbs % 1000=p:=⟨_,rfl⟩
 have hm:n.natAbs=V*1000+p:=by omega
 have hp9:p<=999:=by omega
 rw[yeH n V p hm hp9];obtain⟨f,hf⟩:∃ f,(if p=0 then [] else 46::Lib.trimRightB ((Lib.decDigits (1000+p)).drop 1) 48:List UInt8)=f:=⟨_,rfl⟩
 rw[hf];have hs:=yei V
 have hfr:y9 f=some p:=by
  rw[<- hf]
  split
  ·rename_i h;rw[h];rfl
  ·rename_i h;exact yli p (by omega) hp9
 have hfh:f=[]\/f.head?=some 46:=by
  rw[<- hf]
  split
  ·exact Or.inl rfl
  ·exact Or.inr rfl
 have hfn:f=[]->p=0:=by
  intro h;rw[h] at hfr;exact(Option.some.inj hfr).symm
 obtain⟨w,hw⟩:∃ w,Lib.decDigits V=w:=⟨_,rfl⟩
 rw[hw] at hs |-;obtain⟨h1,h2,h3,h4⟩:=hs;have hL:=ynO w f h2 hfh;have hD:(w++f).drop (yD (w++f)).length=f:=by rw[hL];exact List.drop_left' rfl
 have hhead:(w++f).head?=w.head?:=by
  cases w with
  | nil=>exact absurd rfl h3
  | cons a l=>rfl
 have hdig:∀ c,(w++f).head?=some c->yL c=true:=by
  intro c hc;rw[hhead] at hc
  cases w with
  | nil=>cases hc
  | cons a l =>
   rw[List.all_cons,Bool.and_eq_true] at h2;rw[<- Option.some.inj hc];exact h2.1
 have hgood:∀ neg:Bool,(neg=true->n<0)->¬ ((yD (w++f)).length=0\/(1<(yD (w++f)).length/\(w++f).head?=some 48)\/(neg=true/\w++f=[48])):=by
  rintro neg hn (h | h | h)
  ·rw[hL] at h;exact h3 (List.length_eq_zero_iff.1 h)
  ·rw[hL,hhead] at h;exact h4 h.1 h.2
  ·have hneg:=hn h.1
   have hwf:=h.2
   cases w with
   | nil=>exact h3 rfl
   | cons a l =>
    rw[List.cons_append,List.cons.injEq] at hwf;have hlf:=List.append_eq_nil_iff.1 hwf.2;have hp0:=hfn hlf.2;have hv0:V=0:=by rw[<- h1,hwf.1,hlf.1];rfl
    omega
 by_cases hn:n<0
 ·rw[if_pos hn,List.append_assoc]
  have e:yas ([45]++(w++f))=yaD true (w++f):=rfl;rw[e,ybg (hgood true (fun _=>hn)) (by rw[hD];exact hfr),hL,h1,<- hm]
  split
  ·rfl
  ·simp only[if_true]
   rw[show -((n.natAbs:Nat):Int)=n by omega]
 ·rw[if_neg hn,List.nil_append]
  have e:yas (w++f)=yaD false (w++f):=by
   unfold yas;rw[if_neg];intro h;have:=hdig 45 h;cases this
  rw[e,ybg (hgood false (fun h=>by cases h)) (by rw[hD];exact hfr),hL,h1,<- hm]
  split
  ·rfl
  ·simp only[Bool.false_eq_true,if_false]
   rw[show ((n.natAbs:Nat):Int)=n by omega]
theorem ycz (n:Int)(h0:-9223372036854775808<=n)(h1:n<=9223372036854775807):(yJ n).length<=100:=by
 rw[yeH n (n.natAbs / 1000) (n.natAbs % 1000) (by omega) (by omega),List.length_append,List.length_append];have g1:=yc9 (n.natAbs / 1000) (by omega);have g2:=yc9 (1000+n.natAbs % 1000) (by omega);have g3:(if n<0 then [45] else ([]:List UInt8)).length<=1:=by split <;> simp
 have g4:(if n.natAbs % 1000=0 then [] else 46::Lib.trimRightB ((Lib.decDigits (1000+n.natAbs % 1000)).drop 1) 48:List UInt8).length<=21:=by
  split
  ·simp
  ·rw[List.length_cons]
   have:=yiI ((Lib.decDigits (1000+n.natAbs % 1000)).drop 1) 48;rw[List.length_drop] at this;omega
 omega
def ysJ:Option Value->Int
 | some (.int _ n)=>n
 | _=>0
def prL (l:List UInt8):Int × Int:=match yas l with
 | .tuple vs=>(ysJ vs[0]?,ysJ vs[1]?)
 | _=>(0,4)
theorem yeK {l:List UInt8}{n e:Int}(h:yas l=.tuple #[.int .i64 n,.int .i64 e]):prL l=(n,e):=by unfold prL;rw[h];rfl
theorem ybY (l:List UInt8):yas l=.tuple #[.int .i64 (prL l).1,.int .i64 (prL l).2]:=by
 rcases yeJ l with h | h | ⟨n,h,_⟩
 ·rw[yeK (n:=0) (e:=4) h];exact h
 ·rw[yeK (n:=0) (e:=16) h];exact h
 ·rw[yeK h];exact h
theorem ydO (n:Int)(h0:-268435456<=n)(h1:n<=268435456):prL (yJ n)=(n,0) :=
 yeK (by rw[ylj,if_neg (by omega)])
theorem ydm (l:List UInt8)(h:(prL l).2=0):-268435456<=(prL l).1/\(prL l).1<=268435456:=by
 rcases yeJ l with e | e | ⟨n,e,h1,h2,_⟩
 ·rw[yeK (n:=0) (e:=4) e] at h;cases h
 ·rw[yeK (n:=0) (e:=16) e] at h;cases h
 ·rw[yeK e];exact⟨h1,h2⟩
theorem yqk {l:List UInt8}(h:l.all yL=true):l.all yqh=true:=by
 rw[List.all_eq_true] at h |-;intro c hc;have:ycx c=true:=h c hc;simp[yqh,ycP,this]
theorem ynP {l:List UInt8}(h:l.all yL=true):(Lib.trimRightB l 48).all yL=true:=by
 rw[List.all_eq_true] at h |-;intro c hc;refine h c ?_;have hs:=(yfV l).1;rw[hs];exact List.mem_append_left _ hc
theorem ynQ (n:Int):yqO (yJ n):=by
 obtain⟨V,hV⟩:∃ V,n.natAbs / 1000=V:=⟨_,rfl⟩
 obtain⟨p,hp⟩:∃ p,n.natAbs % 1000=p:=⟨_,rfl⟩
 rw[yeH n V p (by omega) (by omega)];obtain⟨_,h2,h3,_⟩:=yei V;obtain⟨_,d2,_,_⟩:=yei (1000+p)
 have ht:(if p=0 then [] else 46::Lib.trimRightB ((Lib.decDigits (1000+p)).drop 1) 48:List UInt8).all yqh=true:=by
  split
  ·rfl
  ·have hd:((Lib.decDigits (1000+p)).drop 1).all yL=true:=by
     rw[List.all_eq_true] at d2 |-;exact fun c hc=>d2 c (List.mem_of_mem_drop hc)
   rw[List.all_cons,yqk (ynP hd)];rfl
 generalize (if p=0 then [] else 46::Lib.trimRightB ((Lib.decDigits (1000+p)).drop 1) 48:List UInt8)=f at ht |-
 cases hw:Lib.decDigits V with
 | nil=>exact absurd hw h3
 | cons c t =>
  rw[hw,List.all_cons,Bool.and_eq_true] at h2;refine⟨c,t++f,h2.1,by rw[List.all_append,yqk h2.2,ht];rfl,?_⟩
  by_cases hn:n<0
  ·rw[if_pos hn];exact Or.inr rfl
  ·rw[if_neg hn];exact Or.inl rfl
end Go.Proofs.YtgmidodmmlmmeaaGreatDoor.lex
