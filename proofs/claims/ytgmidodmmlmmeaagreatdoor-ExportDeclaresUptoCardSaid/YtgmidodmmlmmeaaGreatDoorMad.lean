/-
  Contracts and plain facts of the layers below; conditions as each theorem states them.
-/
import Derived.Test.YtgmidodmmlmmeaaGreatDoorMac
namespace Go.Proofs.YtgmidodmmlmmeaaGreatDoor
open Go.RowKit _root_.Go.Proofs.Tryz
theorem yow (w:World) :
    Calls Tryz.prog 265 #[.string ⟨#[]⟩] w fun e w'=>e=.returned (ydv false [])/\w=w':=by
 have HB:Hid (ydv false []=yfh):=Lib.hid (yaG (Or.inl rfl));go_enter func265,ntmps265;go_wp2
 go_loop [7,8] (fun dv iv=>dv=.int .i64 0/\iv=.int .i64 0) (fun _ _=>0)
 case atStart=>exact⟨rfl,rfl⟩
 case round =>
  obtain⟨rfl,rfl⟩:=hrel;go_wp2
  (try simp only[Exit.inBlock,Exit.then])
  refine bodyPost_ret (yn rfl _ _ _) rfl ⟨?_,rfl⟩;rw[HB.out];rfl
def yox (l:List UInt8):Value:=if l.head?=some 45 then ydv true l.tail else ydv false l
theorem yoy (s:ByteArray)(w:World)(hs:s.size<=9223372036854775806) :
    Calls Tryz.prog 265 #[.string s] w fun e w'=>e=.returned (yox s.data.toList)/\w=w':=by
 unfold yox
 rcases Nat.eq_zero_or_pos s.size with h0 | h0
 ·obtain rfl:s=⟨#[]⟩:=by
    apply ByteArray.ext
    have:s.data.toList=[]:=List.length_eq_zero_iff.1 (by rw[yq];exact h0)
    simpa using this
  exact yow w
 ·have hh:=yiG s h0
  by_cases h:s[0].toNat=45
  ·have h45:s.data.toList.head?=some 45:=(yaT h0).2 h
   rw[if_pos h45];have hd:(s.extract 1 s.size).data.toList=s.data.toList.tail:=by rw[ya3,List.drop_one]
   rw[<- hd];exact yot s (s.extract 1 s.size) w hs h0 (by rw[beq_iff_eq];omega) rfl (yhE s 1)
  ·have h45:¬ s.data.toList.head?=some 45:=fun e=>h ((yaT h0).1 e)
   rw[if_neg h45];exact yov s w hs h0 (by rw[beq_eq_false_iff_ne];omega)
theorem yh6 (l:List UInt8)(k:Nat):yad (l.take k)<=yad l:=by
 have h:=yeh (l.take k) (l.drop k);rw[List.take_append_drop] at h;have h1:1<=10 ^ (l.drop k).length:=Nat.one_le_pow _ _ (by decide);have h2:yad (l.take k)*1<=yad (l.take k)*10 ^ (l.drop k).length:=Nat.mul_le_mul_left _ h1;omega
theorem yl4 (neg:Bool)(t:List UInt8):(ydv neg t=yfh/\yaD neg t=ynI) \/
    ∃ (d:List UInt8) (p:Nat),ydv neg t=.tuple #[.bool neg,.string ⟨(yD t).toArray⟩,.string ⟨d.toArray⟩,.bool true]/\d.length<=3/\d.all yL=true/\p=pad (yad d) d.length 3 /\
     yaD neg t=if 268435456<yad (yD t)*1000+p then ysE else .tuple #[.int .i64 (if neg then -((yad (yD t)*1000+p:Nat):Int) else ((yad (yD t)*1000+p:Nat):Int)),.int .i64 0]:=by
 by_cases hb:(yD t).length=0\/(1<(yD t).length/\t.head?=some 48)\/(neg=true/\t=[48])
 ·exact Or.inl ⟨yaG hb,ybv hb⟩
 ·cases hf:y9 (t.drop (yD t).length) with
  | none=>exact Or.inl ⟨yaJ hf,yc8 hf⟩
  | some p =>
   refine Or.inr ⟨_,p,yaK hb hf,?_⟩;have e:t.drop ((yD t).length+1)=(t.drop (yD t).length).tail:=by rw[List.tail_drop]
   rw[e]
   cases hr:t.drop (yD t).length with
   | nil =>
    rw[hr] at hf;have:p=0:=(Option.some.inj hf).symm;exact⟨by simp,rfl,by rw[this];rfl,ybg hb (by rw[hr];exact hf)⟩
   | cons c d =>
    rw[hr] at hf
    by_cases hc:c=46/\1<=d.length/\d.length<=3/\d.all yL=true/\d.getLast?≠some 48
    ·have e2:y9 (c::d)=some (pad (yad d) d.length 3):=if_pos hc
     rw[e2] at hf;exact⟨hc.2.2.1,hc.2.2.2.1,(Option.some.inj hf).symm,ybg hb (by rw[hr,e2];exact hf)⟩
    ·have e2:y9 (c::d)=none:=if_neg hc
     rw[e2] at hf;cases hf
set_option maxHeartbeats 4000000 in
theorem ydx (s:ByteArray)(neg:Bool)(t:List UInt8)(w:World)(ht:t.length<=20000)
    (HFORM:Hid (∀ w,Calls Tryz.prog 265 #[.string s] w fun e w'=>e=.returned (ydv neg t)/\w=w')) :
    Calls Tryz.prog 226 #[.string s] w fun e w'=>e=.returned (yaD neg t)/\w=w':=by
 rcases yl4 neg t with ⟨h1,h2⟩ | ⟨d,p,h1,hd3,hda,hp,h2⟩
 ·have HP:=Lib.hid h2
  have HF:=Lib.hid h1;clear h1 h2;go_enter func226,ntmps226;go_wp2_with fail
  refine(HFORM.out _).mono ?_;rw[HF.out];rintro e w' ⟨rfl,rfl⟩;unfold yfh;go_wp2
  go_ret2
  refine⟨?_,rfl⟩;rw[HP.out];rfl
 ·have HP:=Lib.hid h2
  have HF:=Lib.hid h1;have HPP:=Lib.hid hp;have HDA:=Lib.hid hda;have HWA:=Lib.hid (yeg t);obtain⟨wl,hwl⟩:∃ wl,yD t=wl:=⟨_,rfl⟩
  have hw1:wl.length<=20000:=by rw[<- hwl];have:=yce t;omega
  rw[hwl] at HP HF HWA;clear h1 h2 hp hda hwl;go_enter func226,ntmps226;go_wp2_with fail
  refine(HFORM.out _).mono ?_;rw[HF.out];rintro e w' ⟨rfl,rfl⟩;go_wp2
  go_loop [6] (fun a=>∃ (j:Nat) (x:List UInt8),a=.string ⟨x.toArray⟩/\x=d++List.replicate j 48/\x.length<=3) (fun a=>3-Lib.strSize a)
  case atStart=>exact⟨0,d,rfl,by simp,hd3⟩
  case round =>
   obtain⟨j,x,rfl,hx,hx3⟩:=hrel;have HX:=Lib.hid hx;clear hx
   by_cases hlt:x.length<3
   ·go_wp2
    go_round
    case rel=>exact⟨j+1,x++[48],by rw[<- ydk],by rw[HX.out,List.replicate_succ',List.append_assoc],by rw[List.length_append];simp;omega⟩
    case measure =>
     rw[Lib.strSize_string,Lib.strSize_string,show (⟨#[48]⟩:ByteArray)=⟨[(48:UInt8)].toArray⟩ from rfl,ydk,Lib.size_mk,Lib.size_mk,List.length_append];simp;omega
   ·have hj:j=3-d.length:=by have:=congrArg List.length HX.out;rw[List.length_append,List.length_replicate] at this;omega
    have hxv:yad x=p:=by rw[HX.out,hj,ygC,HPP.out]
    have hxa:∀ c∈x,yL c=true:=by
     intro c hc;rw[HX.out] at hc
     rcases List.mem_append.1 hc with h | h
     ·exact List.all_eq_true.1 HDA.out c h
     ·rw[(List.mem_replicate.1 h).2];rfl
    have hx4:x.length=3:=by omega
    obtain⟨al,hal⟩:∃ al,((⟨wl.toArray⟩:ByteArray)++⟨x.toArray⟩)=al:=⟨_,rfl⟩
    have hald:al.data.toList=wl++x:=by rw[<- hal,ydk]
    have hals:al.size<=20003:=by rw[<- yq,hald,List.length_append];omega
    have hv:yad al.data.toList=yad wl*1000+p:=by rw[hald,yeh,hx4,hxv]
    have hdg:∀ i (h:i<al.size),48<=al[i].toNat/\al[i].toNat<=57:=by
     intro i h;refine ydl ?_;have hm:=List.mem_of_getElem? (yfR al i h);rw[hald] at hm
     rcases List.mem_append.1 hm with hm | hm
     ·exact HWA.out _ hm
     ·exact hxa _ hm
    have HV:=Lib.hid hv;have HDG:=Lib.hid hdg;clear hj hxv hxa hx4 hald hv hdg HX;go_wp2
    go_loop [8,10] (fun nv iv=>∃ n i:Nat,nv=.int .i64 n/\iv=.int .i64 i/\i<=al.size/\n<=268435456/\n=yad (al.data.toList.take i)) (fun _ iv=>al.size-(intOf iv).toNat)
    case atStart=>exact⟨0,0,rfl,rfl,Nat.zero_le _,by omega,rfl⟩
    case round =>
     obtain⟨n,i,rfl,rfl,hi,hn,hnv⟩:=hrel;have HN:=Lib.hid hnv;clear hnv
     by_cases hia:i<al.size
     ·obtain⟨c1,c2⟩:=HDG.out i hia
      have hstep:yad (al.data.toList.take (i+1))=10*n+(al[i].toNat-48):=by rw[ycQ al i hia,ycy,<- HN.out]
      have HST:=Lib.hid hstep;clear hstep
      by_cases ho:268435456<10*n+(al[i].toNat-48)
      ·have hov:268435456<yad wl*1000+p:=by
         have:=yh6 al.data.toList (i+1);rw[HST.out,HV.out] at this;omega
       have HO:=Lib.hid hov;clear hov;go_wp2
       go_ret2
       refine⟨?_,rfl⟩;rw[HP.out,if_pos HO.out];rfl
      ·go_wp2
       go_round
       case rel=>exact⟨10*n+(al[i].toNat-48),i+1,congrArg (Value.int .i64) (by omega),by go_num,by omega,by omega,HST.out.symm⟩
       case measure=>simp[intOf];omega
     ·obtain rfl:i=al.size:=by omega
      have hfin:n=yad wl*1000+p:=by rw[HN.out,<- HV.out,List.take_of_length_le (by rw[yq];omega)]
      have HFI:=Lib.hid hfin;clear hfin;cases neg
      ·go_wp2
       go_ret2
       refine⟨?_,rfl⟩;rw[HP.out,if_neg (by rw[<- HFI.out];omega),<- HFI.out];rfl
      ·go_wp2
       go_ret2
       refine⟨?_,rfl⟩;rw[HP.out,if_neg (by rw[<- HFI.out];omega),<- HFI.out];rfl
theorem yh7 (s:ByteArray)(w:World)(hs:s.size<=20000) :
    Calls Tryz.prog 226 #[.string s] w fun e w'=>e=.returned (yas s.data.toList)/\w=w':=by
 unfold yas;have hform:∀ w,Calls Tryz.prog 265 #[.string s] w fun e w'=>e=.returned (yox s.data.toList)/\w=w':=fun w=>yoy s w (by omega)
 unfold yox at hform;have hl:=yq s
 by_cases h:s.data.toList.head?=some 45
 ·rw[if_pos h] at hform |-
  exact ydx s true _ w (by rw[List.length_tail];omega) (Lib.hid hform)
 ·rw[if_neg h] at hform |-
  exact ydx s false _ w (by omega) (Lib.hid hform)
theorem yaH (s:ByteArray)(v:Value)(w:World)(hs:s.size<=20000)(hv:Hid (yas s.data.toList=v)) :
    Calls Tryz.prog 226 #[.string s] w fun e w'=>e=.returned v/\w=w':=by
 have:=yh7 s w hs;rw[hv.out] at this;exact this
end Go.Proofs.YtgmidodmmlmmeaaGreatDoor
namespace Go.Proofs.YtgmidodmmlmmeaaGreatDoor
open Go.RowKit lex
abbrev ba (l:List UInt8):ByteArray:=⟨l.toArray⟩
theorem yml {a b:ByteArray}(h:a.data.toList=b.data.toList):a=b:=by
 cases a;cases b;simp at h;subst h;rfl
theorem ys8 (a b:ByteArray):(a++b).data.toList=a.data.toList++b.data.toList:=by simp
theorem yoQ {s:ByteArray}{k:Nat}(hlt:k<s.size):yla (s.data.toList.take (k+1))=yla (s.data.toList.take k)++(if s[k].toNat=34\/s[k].toNat=92 then [92,s[k]] else [s[k]]):=by
 rw[List.take_add_one,ycF s k hlt];simp[yla]
theorem ymm (l:List UInt8):(yla l).length<=2*l.length:=by
 induction l with
 | nil=>simp[yla]
 | cons a l ih =>
  have e:yla (a::l)=(if a.toNat=34\/a.toNat=92 then [92,a] else [a])++yla l:=by simp[yla]
  rw[e,List.length_append,List.length_cons]
  split <;> simp <;> omega
def ykS (l:List UInt8):List UInt8 × Int:=if 32<l.length then ([],2) else if l.all yar then (yqi l,0) else ([],1)
theorem ymn {s:ByteArray}{k:Nat}(h:k<s.size):s.data.toList.drop k=s[k]::s.data.toList.drop (k+1):=by
 rw[List.drop_eq_getElem_cons (by rw[yp];exact h)];rfl
theorem yjT {s:ByteArray}{k:Nat}(h:s.size<=k):s.data.toList.drop k=[]:=List.drop_eq_nil_of_le (by rw[yp];exact h)
end Go.Proofs.YtgmidodmmlmmeaaGreatDoor
