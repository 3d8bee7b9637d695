package gorilla

import "windrose/api"

// Encode is a chunk's data.
func Encode(c api.Chunk) (api.Data, api.Errno) {
	if e := Check(c); e != api.OK {
		return api.Data{}, e
	}
	return api.Data{Nums: []int{c.N, c.First, c.Last, c.Bits.N}, Texts: []string{string(c.Bits.B)}}, api.OK
}

// Decode is the chunk of data.
func Decode(d api.Data) (api.Chunk, api.Errno) {
	if len(d.Nums) != 4 || len(d.Texts) != 1 {
		return api.Chunk{}, api.ErrText
	}
	c := api.Chunk{N: d.Nums[0], First: d.Nums[1], Last: d.Nums[2], Bits: api.Bits{N: d.Nums[3], B: []byte(d.Texts[0])}}
	if e := Check(c); e != api.OK {
		return api.Chunk{}, e
	}
	return c, api.OK
}
